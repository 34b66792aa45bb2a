/- Tables in order: the document's answer. -/
import Derived.Test.YtgjidlfemfomcaaDoorOfI
namespace Go.Proofs.YtgjidlfemfomcaaDoor
open Go.RowKit
set_option linter.unusedVariables false
set_option maxRecDepth 100000 in
set_option maxHeartbeats 4000000 in
theorem ROrdered_any (l : List NodeA) (a : Option Addr) (c : Nat) (q : Bool) (w : World) (hA : TabR w l a c) (hl : l.length ≤ 1000) (hq : ordB l = q) :
    Calls Tryd.prog 7 #[.agg #[.slice a l.length c]] w fun e w' => e = .returned (.bool q) ∧ Below w.heap.size w w' := by
  obtain ⟨W0, hW0⟩ : ∃ W0, W0 = w.alloc (.cells #[.slice a l.length c] 24) := ⟨_, rfl⟩
  have HB0 : Hid (Below w.heap.size w W0) := by show Below _ _ _; rw [hW0]; exact (Below.refl _ w).alloc (Nat.le_refl _) _
  have HXR : Hid (∀ V, Below W0.heap.size W0 V → V.heap[w.heap.size]? = some (.cells #[.slice a l.length c] 24 (0, 0))) := fun V hV => by
    have hx0 : W0.heap[w.heap.size]? = some (.cells #[.slice a l.length c] 24 (0, 0)) := by rw [hW0]; exact heap_alloc_new w _
    exact (hV.block _ (Array.getElem?_eq_some_iff.1 hx0).1).trans hx0
  cases hm : mayT l with
  | false =>
    obtain rfl : false = q := by rw [← hq]; unfold ordB; rw [hm]; rfl
    have HC : Hid (Calls Tryd.prog 16 #[.agg #[.slice a l.length c]] W0 fun e w' => e = .returned (.int .i64 2) ∧ Below W0.heap.size W0 w') := RCheck_any l a c 2 W0 (hA.below HB0.out) hl (by rw [hm]; rfl)
    clear hA hm hq
    go_enter Tryd.func7, Tryd.ntmps7
    go_wp2_with (go_at_call 16; rw [← hW0]; clear hW0; refine HC.out.mono ?_; rintro e w1 ⟨rfl, hb1⟩)
    go_ret
    exact ⟨rfl, HB0.out.trans (hb1.mono HB0.out.size)⟩
  | true =>
    have HC : Hid (Calls Tryd.prog 16 #[.agg #[.slice a l.length c]] W0 fun e w' => e = .returned (.int .i64 0) ∧ Below W0.heap.size W0 w') := RCheck_any l a c 0 W0 (hA.below HB0.out) hl (by rw [hm]; rfl)
    have HOK := Lib.hid (mayT_ok hm).2
    have HQ : Hid ((!l.any (badN l)) = q) := by show _ = _; rw [← hq]; unfold ordB; rw [hm, Bool.true_and]
    have HA := Lib.hid hA
    have hcap := hA.le
    have hmx : l.length ≤ 9223372036854775807 := by omega
    clear hA hm hq
    go_enter Tryd.func7, Tryd.ntmps7
    go_wp2_with (go_at_call 16; rw [← hW0]; clear hW0; refine HC.out.mono ?_; rintro e w1 ⟨rfl, hb1⟩; have HB1 := Lib.hid hb1; clear hb1)
    go_loopw [3] (fun i wr => ∃ k : Nat, k ≤ l.length ∧ i = .int .i64 k ∧ Hid (Below W0.heap.size W0 wr) ∧ Hid ((l.take k).any (badN l) = false)) (fun i _ => l.length - (intOf i).toNat)
    case atStart => exact ⟨0, Nat.zero_le _, rfl, HB1, by show _ = _; rw [List.take_zero]; rfl⟩
    case round =>
      obtain ⟨k, hkl, rfl, HW, HE⟩ := hrel
      obtain ⟨x0, _, xz⟩ := box3' (HXR.out _ HW.out)
      have HWw : Hid (Below w.heap.size w wr) := HB0.out.trans (HW.out.mono HB0.out.size)
      by_cases hlt : k < l.length
      · obtain ⟨n, hn⟩ : ∃ n, l[k]? = some n := ⟨_, List.getElem?_eq_getElem hlt⟩
        obtain ⟨g, o, rfl, hg, q0, q1, q2, q3, q4, q5, q6, q7⟩ := (HA.out.below HWw.out).node hn
        have hki : (k : Int) < (l.length : Int) := by omega
        have hk0 : (0 : Int) ≤ (k : Int) := by omega
        by_cases h0 : n.op = 11
        rotate_left
        · have HNX : Hid ((l.take (k + 1)).any (badN l) = false) := by show _ = _; rw [any_take hn, HE.out, bad_no h0]; rfl
          have e0 := ne_t h0
          clear h0 hn
          go_wp2
          go_roundw
          case rel => exact ⟨k + 1, by omega, by go_num, HW, HNX⟩
          case measure => simp [intOf]; omega
        obtain ⟨b0, b1, -⟩ := stands_add (ok_at HOK.out hn).1 h0
        obtain ⟨m, hm⟩ : ∃ m : Nat, n.a0 = (m : Int) := ⟨n.a0.toNat, by omega⟩
        obtain ⟨y, hy⟩ : ∃ y, l[m]? = some y := ⟨_, List.getElem?_eq_getElem (by omega)⟩
        have hop : opAt l n = y.op := by unfold opAt; rw [hm, Int.toNat_natCast, List.getD_eq_getElem?_getD, hy]; rfl
        obtain ⟨g', o', he, hg', r0, r1, r2, r3, r4, r5, r6, r7⟩ := (HA.out.below HWw.out).node hy
        cases he
        have hmi : (m : Int) < (l.length : Int) := by omega
        have hm0 : (0 : Int) ≤ (m : Int) := by omega
        have e0 := ne_f h0
        have HN := Lib.hid hn
        rw [hm] at q2
        clear hn hy r1 r2 r3 r4 r5 r6 r7 b0 b1 hm q1 q3 q4 q5 q6
        have HBad : Hid (badN l n = true → q = false) := fun h => by rw [← HQ.out, any_mem HN.out h]; rfl
        by_cases h1 : n.num = 0
        · obtain rfl : q = false := HBad.out (bad_num h0 h1)
          have e1 := eq_t h1
          clear h0 h1 hop
          go_wp2
          go_quiet (fail)
          go_wp2
          go_ret
          exact ⟨rfl, below_drewN HWw.out⟩
        have e1 := eq_f h1
        by_cases h2 : y.op = 11
        · obtain rfl : q = false := HBad.out (bad_add h0 (hop.trans h2))
          have e2 := eq_t h2
          clear h0 h1 hop h2
          go_wp2
          go_quiet (fail)
          go_wp2
          go_ret
          exact ⟨rfl, below_drewN HWw.out⟩
        have e2 := eq_f h2
        by_cases h3 : y.op = 10
        · obtain rfl : q = false := HBad.out (bad_lit h0 (hop.trans h3))
          have e3 := eq_t h3
          clear h0 h1 hop h2 h3
          go_wp2
          go_quiet (fail)
          go_wp2
          go_ret
          exact ⟨rfl, below_drewN HWw.out⟩
        have e3 := eq_f h3
        have HNX : Hid ((l.take (k + 1)).any (badN l) = false) := by show _ = _; rw [any_take HN.out, HE.out, bad_not h1 (by rw [hop]; exact h2) (by rw [hop]; exact h3)]; rfl
        clear h0 h1 hop h2 h3
        go_wp2
        go_quiet (fail)
        go_wp2
        go_roundw
        case rel => exact ⟨k + 1, by omega, by go_num, below_drewN HW.out, HNX⟩
        case measure => simp [intOf]; omega
      · obtain rfl : k = l.length := by omega
        obtain rfl : q = true := by have h := HE.out; rw [List.take_length] at h; rw [← HQ.out, h]; rfl
        go_wp2
        go_ret
        exact ⟨rfl, HWw.out⟩
end Go.Proofs.YtgjidlfemfomcaaDoor
