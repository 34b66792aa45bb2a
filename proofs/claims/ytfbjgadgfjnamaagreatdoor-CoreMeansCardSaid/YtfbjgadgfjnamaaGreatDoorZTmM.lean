/- The document's Great and Check. -/
import Derived.Test.YtfbjgadgfjnamaaGreatDoorZTmF
import Derived.Test.YtfbjgadgfjnamaaGreatDoorZTmJ
import Derived.BigQuiet
namespace Go.Proofs.YtfbjgadgfjnamaaGreatDoor.Tm
open Go.RowKit
set_option linter.unusedVariables false
theorem Great_any (l : List NodeA) (a : Option Addr) (c : Nat) (r : Bool) (w : World) (hl : l.length ≤ 9223372036854775807) (hr : decide (300 < l.length) = r) :
    Calls Tryz.prog 9 #[.agg #[.slice a l.length c]] w fun e w' => e = .returned (.bool r) ∧ Below w.heap.size w w' := by
  have HB0 : Hid (Below w.heap.size w (w.alloc (.cells #[.slice a l.length c] 33))) := (Below.refl _ w).alloc (Nat.le_refl _) _
  have HR : Hid (decide (300 < (l.length : Int)) = r) := by
    show _ = _
    rw [← hr]
    by_cases h : 300 < l.length
    · rw [decide_eq_true h, decide_eq_true (by omega)]
    · rw [decide_eq_false h, decide_eq_false (by omega)]
  clear hr
  go_enter Tryz.func9, Tryz.ntmps9
  go_wp2
  go_ret
  exact ⟨ret_bool HR.out, HB0.out⟩
def errB2 (b : Bool) : Int := if b = true then 0 else 2
theorem take2 {l : List NodeA} {x y : NodeA} (h0 : l[0]? = some x) (h1 : l[1]? = some y) : l.take 2 = [x, y] := by
  match l, h0, h1 with
  | a :: b :: r, h0, h1 => simp at h0 h1; subst h0 h1; simp
theorem may_no0 {l : List NodeA} {x : NodeA} (h0 : l[0]? = some x) (h : ¬ x = trueN) : mayT l = false := by
  cases hm : mayT l with
  | false => rfl
  | true =>
    have := congrArg (fun z : List NodeA => z[0]?) (mayT_ok hm).1
    simp only [List.getElem?_take] at this
    rw [if_pos (by omega), h0] at this
    simp [newL] at this
    exact absurd this h
theorem may_no1 {l : List NodeA} {x : NodeA} (h0 : l[1]? = some x) (h : ¬ x = zeroN) : mayT l = false := by
  cases hm : mayT l with
  | false => rfl
  | true =>
    have := congrArg (fun z : List NodeA => z[1]?) (mayT_ok hm).1
    simp only [List.getElem?_take] at this
    rw [if_pos (by omega), h0] at this
    simp [newL] at this
    exact absurd this h
theorem may_nok {l : List NodeA} {k : Nat} (h : okFrom [] (l.take k) = false) : mayT l = false := by
  unfold mayT
  rw [ok_no h, Bool.and_false]
set_option maxRecDepth 100000 in
set_option maxHeartbeats 4000000 in
theorem RCheck_any (l : List NodeA) (a : Option Addr) (c : Nat) (r : Int) (w : World) (hA : TabR w l a c) (hl : l.length ≤ 3000) (hr : errB2 (mayT l) = r) :
    Calls Tryz.prog 29 #[.agg #[.slice a l.length c]] w fun e w' => e = .returned (.int .i64 r) ∧ Below w.heap.size w w' := by
  have HYes : Hid (mayT l = true → r = 0) := fun h => by rw [← hr, h]; rfl
  have HNo : Hid (mayT l = false → r = 2) := fun h => by rw [← hr, h]; rfl
  obtain ⟨W0, hW0⟩ : ∃ W0, W0 = w.alloc (.cells #[.slice a l.length c] 33) := ⟨_, rfl⟩
  have hB0 : Below w.heap.size w W0 := by rw [hW0]; exact (Below.refl _ w).alloc (Nat.le_refl _) _
  have hsz : W0.heap.size = w.heap.size + 1 := by rw [hW0]; simp
  have hX0 : W0.heap[w.heap.size]? = some (.cells #[.slice a l.length c] 33 (0, 0)) := by rw [hW0]; exact heap_alloc_new w _
  have HN : Hid (Calls Tryz.prog 27 #[] W0 fun e w' => e = .returned (.agg #[.slice (some ⟨W0.heap.size + 1, 0, none⟩) 2 2]) ∧ TabR w' newL (some ⟨W0.heap.size + 1, 0, none⟩) 2 ∧ Below W0.heap.size W0 w') := RNew_any W0
  have HS : Hid (∀ (n : NodeA) (k : Nat) (V : World), NodeOk n → (k : Int) ≤ 1000000 → Calls Tryz.prog 57 #[.agg #[.int .i8 n.op, .int .i8 n.len, .int .i64 n.a0, .int .i64 n.a1, .int .i64 n.a2, .int .i64 n.sort, .int .i64 n.fn, .int .i64 n.num], .int .i64 k] V fun e w' => e = .returned (.bool (standsB n k)) ∧ Below V.heap.size V w') := fun n k V ho hk => RStands_any n k V ho hk
  have HA := Lib.hid hA
  have HB0 := Lib.hid hB0
  have hcap := hA.le
  have HX : Hid (∀ V, Below W0.heap.size W0 V → V.cell? ⟨w.heap.size, 0, none⟩ = some (.slice a l.length c) ∧ w.heap.size < V.heap.size) := fun V hV => by
    have e0 := (hV.block _ (by omega)).trans hX0
    exact ⟨(cell_of_row _ _ 0 _ _ _ e0).trans rfl, (Array.getElem?_eq_some_iff.1 e0).1⟩
  have hlm : l.length ≤ 9223372036854775807 := by omega
  clear hr hA hB0 hX0 hsz
  go_enter Tryz.func29, Tryz.ntmps29
  go_wp2_with (go_at_call 27; rw [← hW0]; clear hW0; refine HN.out.mono ?_; rintro e w1 ⟨rfl, ht1, hb1⟩; have HT := Lib.hid ht1; clear ht1)
  obtain ⟨W2, hW2⟩ : ∃ W2, W2 = w1.alloc (.cells #[.slice (some ⟨W0.heap.size + 1, 0, none⟩) 2 2] 33) := ⟨_, rfl⟩
  rw [← hW2]
  have hb2 : Below W0.heap.size W0 W2 := by rw [hW2]; exact hb1.alloc hb1.size _
  have hs12 : w1.heap.size < W2.heap.size := by rw [hW2]; simp
  have hb12 : Below w1.heap.size w1 W2 := by rw [hW2]; exact (Below.refl _ _).alloc (Nat.le_refl _) _
  have hT2 : TabR W2 newL (some ⟨W0.heap.size + 1, 0, none⟩) 2 := HT.out.below hb12
  have hy2 : W2.heap[w1.heap.size]? = some (.cells #[.slice (some ⟨W0.heap.size + 1, 0, none⟩) 2 2] 33 (0, 0)) := by rw [hW2]; exact heap_alloc_new w1 _
  have y0 : W2.cell? ⟨w1.heap.size, 0, none⟩ = some (.slice (some ⟨W0.heap.size + 1, 0, none⟩) 2 2) := (cell_of_row _ _ 0 _ _ _ hy2).trans rfl
  have HBx : Hid (Below w.heap.size w W2) := HB0.out.trans (hb2.mono HB0.out.size)
  obtain ⟨x0, xz⟩ := HX.out _ hb2
  have HB2 := Lib.hid hb2
  obtain ⟨g1, o1, he, hg1, n0, n1, n2, n3, n4, n5, n6, n7⟩ := hT2.node (k := 0) (n := trueN) rfl
  cases he
  obtain ⟨g1, o1, he, hg2, m0, m1, m2, m3, m4, m5, m6, m7⟩ := hT2.node (k := 1) (n := zeroN) rfl
  cases he
  simp only [trueN, Nat.zero_mul, Nat.zero_add, Nat.add_zero] at n0 n1 n2 n3 n4 n5 n6 n7
  simp only [zeroN, Nat.one_mul, Nat.zero_add, Nat.reduceAdd] at m0 m1 m2 m3 m4 m5 m6 m7
  clear hW2 hb1 hb12 hT2 hy2 hb2 HN
  by_cases hl2 : (l.length : Int) < 2
  · obtain rfl : r = 2 := HNo.out (by
      cases hm : mayT l with
      | false => rfl
      | true => have := mayT_len hm; omega)
    have d1 : decide ((l.length : Int) < 2) = true := decide_eq_true hl2
    have d2 : decide (l.length < 2) = true := decide_eq_true (by omega)
    go_quiet (fail)
    go_wp2
    go_ret
    exact ⟨rfl, below_drewN HBx.out⟩
  have d1 : decide ((l.length : Int) < 2) = false := decide_eq_false hl2
  have d2 : decide (l.length < 2) = false := decide_eq_false (by omega)
  obtain ⟨x, hx⟩ : ∃ x, l[0]? = some x := ⟨_, List.getElem?_eq_getElem (by omega)⟩
  obtain ⟨y, hy⟩ : ∃ y, l[1]? = some y := ⟨_, List.getElem?_eq_getElem (by omega)⟩
  have hTA : TabR W2 l a c := HA.out.below HBx.out
  obtain ⟨g, o, he, hg, q0, q1, q2, q3, q4, q5, q6, q7⟩ := hTA.node hx
  cases he
  obtain ⟨g, o, he, hg', r0, r1, r2, r3, r4, r5, r6, r7⟩ := hTA.node hy
  cases he
  simp only [Nat.zero_mul, Nat.add_zero] at q0 q1 q2 q3 q4 q5 q6 q7
  simp only [Nat.one_mul] at r0 r1 r2 r3 r4 r5 r6 r7
  have hxo := HA.out.ok x (List.mem_of_getElem? hx)
  have hyo := HA.out.ok y (List.mem_of_getElem? hy)
  have hto : NodeOk trueN := ⟨⟨by decide, by decide⟩, ⟨by decide, by decide⟩, ⟨by decide, by decide⟩, ⟨by decide, by decide⟩, ⟨by decide, by decide⟩, ⟨by decide, by decide⟩, ⟨by decide, by decide⟩, ⟨by decide, by decide⟩⟩
  have hzo : NodeOk zeroN := ⟨⟨by decide, by decide⟩, ⟨by decide, by decide⟩, ⟨by decide, by decide⟩, ⟨by decide, by decide⟩, ⟨by decide, by decide⟩, ⟨by decide, by decide⟩, ⟨by decide, by decide⟩, ⟨by decide, by decide⟩⟩
  have e0 := eq_node x trueN hxo hto
  have f0 := eqi_node x trueN hxo hto
  have e1 := eq_node y zeroN hyo hzo
  have f1 := eqi_node y zeroN hyo hzo
  have HXY := Lib.hid (And.intro hx hy)
  clear hx hy hTA hxo hyo hto hzo
  by_cases hxt : x = trueN
  rotate_left
  · obtain rfl : r = 2 := HNo.out (may_no0 HXY.out.1 hxt)
    rw [decide_eq_false hxt] at e0 f0
    simp only [trueN] at e0 f0
    clear hxt e1 f1
    go_quiet (fail)
    go_wp2
    go_ret
    exact ⟨rfl, below_drewN HBx.out⟩
  rw [decide_eq_true hxt] at e0 f0
  simp only [trueN] at e0 f0
  by_cases hyz : y = zeroN
  rotate_left
  · obtain rfl : r = 2 := HNo.out (may_no1 HXY.out.2 hyz)
    rw [decide_eq_false hyz] at e1 f1
    simp only [zeroN] at e1 f1
    clear hxt hyz
    go_quiet (fail)
    go_wp2
    go_ret
    exact ⟨rfl, below_drewN HBx.out⟩
  rw [decide_eq_true hyz] at e1 f1
  simp only [zeroN] at e1 f1
  have HMT : Hid (mayT l = okFrom [] l) := by
    show _ = _
    unfold mayT
    rw [take2 HXY.out.1 HXY.out.2, hxt, hyz]
    rfl
  clear hxt hyz HXY
  go_quiet (fail)
  clear q0 q1 q2 q3 q4 q5 q6 q7 r0 r1 r2 r3 r4 r5 r6 r7 n0 n1 n2 n3 n4 n5 n6 n7 m0 m1 m2 m3 m4 m5 m6 m7 e0 f0 e1 f1 y0
  go_wp2
  have HBq : Hid (Below W2.heap.size W2 (W2.drewN nq)) := below_drewN (Below.refl _ _)
  generalize W2.drewN nq = W3 at HBq ⊢
  go_loopw [4] (fun i wr => ∃ k : Nat, k ≤ l.length ∧ i = .int .i64 k ∧ Hid (Below W2.heap.size W2 wr) ∧ Hid (okFrom [] (l.take k) = true)) (fun i _ => l.length - (intOf i).toNat)
  case atStart => exact ⟨0, Nat.zero_le _, rfl, HBq, rfl⟩
  case round =>
    obtain ⟨k, hkl, rfl, HW, HOK⟩ := hrel
    have HWw : Hid (Below w.heap.size w wr) := HBx.out.trans (HW.out.mono HBx.out.size)
    have HW0 : Hid (Below W0.heap.size W0 wr) := HB2.out.trans (HW.out.mono HB2.out.size)
    clear x0 xz
    obtain ⟨x0, xz⟩ := HX.out _ HW0.out
    by_cases hlt : k < l.length
    · obtain ⟨y, hy⟩ : ∃ y, l[k]? = some y := ⟨_, List.getElem?_eq_getElem hlt⟩
      obtain ⟨g2, o2, he, hg2, q0, q1, q2, q3, q4, q5, q6, q7⟩ := (HA.out.below HWw.out).node hy
      cases he
      have hyo := HA.out.ok y (List.mem_of_getElem? hy)
      have hnx := ok_next hy HOK.out
      have HY := Lib.hid (And.intro hy hyo)
      obtain ⟨s, hs⟩ : ∃ s, standsB y k = s := ⟨_, rfl⟩
      have HSt : Hid (∀ V, Calls Tryz.prog 57 #[.agg #[.int .i8 y.op, .int .i8 y.len, .int .i64 y.a0, .int .i64 y.a1, .int .i64 y.a2, .int .i64 y.sort, .int .i64 y.fn, .int .i64 y.num], .int .i64 k] V fun e w' => e = .returned (.bool s) ∧ Below V.heap.size V w') := fun V => by rw [← hs]; exact HS.out y k V hyo (by omega)
      rw [hs] at hnx
      clear hy hyo hs
      cases s with
      | false =>
        obtain rfl : r = 2 := HNo.out (may_nok (k := k + 1) (by rw [hnx]; rfl))
        clear hnx
        go_wp2_with (go_at_call 57; refine (HSt.out _).mono ?_; rintro e w3 ⟨rfl, hb3⟩)
        go_ret
        exact ⟨rfl, HWw.out.trans (hb3.mono HWw.out.size)⟩
      | true =>
        rw [Bool.true_and] at hnx
        have HNX := Lib.hid hnx
        clear hnx
        go_wp2_with (go_at_call 57; refine (HSt.out _).mono ?_; rintro e w3 ⟨rfl, hb3⟩)
        have HW3 : Hid (Below W2.heap.size W2 w3) := HW.out.trans (hb3.mono HW.out.size)
        clear q0 q1 q2 q3 q4 q5 q6 q7 x0 xz hb3
        go_loopw [5] (fun i wr => ∃ j : Nat, j ≤ k ∧ i = .int .i64 j ∧ Hid (Below W2.heap.size W2 wr) ∧ Hid (∀ i, i < j → l[i]? ≠ some y)) (fun i _ => k - (intOf i).toNat)
        case atStart => exact ⟨0, Nat.zero_le _, rfl, HW3, fun i hi => by omega⟩
        case round =>
          obtain ⟨j, hjk, rfl, HV, HNO⟩ := hrel
          have HVw : Hid (Below w.heap.size w wr) := HBx.out.trans (HV.out.mono HBx.out.size)
          have HV0 : Hid (Below W0.heap.size W0 wr) := HB2.out.trans (HV.out.mono HB2.out.size)
          obtain ⟨x0, xz⟩ := HX.out _ HV0.out
          by_cases hjl : j < k
          · obtain ⟨z, hz⟩ : ∃ z, l[j]? = some z := ⟨_, List.getElem?_eq_getElem (by omega)⟩
            obtain ⟨g3, o3, he, hg3, q0, q1, q2, q3, q4, q5, q6, q7⟩ := (HA.out.below HVw.out).node HY.out.1
            cases he
            obtain ⟨g4, o4, he, hg4, r0, r1, r2, r3, r4, r5, r6, r7⟩ := (HA.out.below HVw.out).node hz
            cases he
            have e0 := eq_node z y (HA.out.ok z (List.mem_of_getElem? hz)) HY.out.2
            have f0 := eqi_node z y (HA.out.ok z (List.mem_of_getElem? hz)) HY.out.2
            have HZ := Lib.hid hz
            clear hz
            by_cases hzy : z = y
            · rw [decide_eq_true hzy] at e0 f0
              have hin : y ∈ l.take k := by
                refine List.mem_of_getElem? (i := j) ?_
                rw [List.getElem?_take, if_pos hjl, HZ.out, hzy]
              obtain rfl : r = 2 := HNo.out (may_nok (k := k + 1) (by rw [HNX.out, decide_eq_true hin]; rfl))
              clear hzy hin
              go_wp2
              go_quiet (fail)
              go_wp2
              go_ret
              exact ⟨rfl, below_drewN HVw.out⟩
            · rw [decide_eq_false hzy] at e0 f0
              have HNO2 : Hid (∀ i, i < j + 1 → l[i]? ≠ some y) := fun i hi => by
                by_cases hij : i < j
                · exact HNO.out i hij
                · obtain rfl : i = j := by omega
                  rw [HZ.out]
                  exact fun e => hzy (Option.some.inj e)
              clear hzy
              go_wp2
              go_quiet (fail)
              go_wp2
              go_roundw
              case rel => exact ⟨j + 1, by omega, by go_num, below_drewN HV.out, HNO2⟩
              case measure => simp [intOf]; omega
          · obtain rfl : j = k := by omega
            have hin : ¬ y ∈ l.take j := fun h => by
              obtain ⟨i, hi⟩ := List.getElem?_of_mem h
              rw [List.getElem?_take] at hi
              split at hi
              · rename_i hij
                exact HNO.out i hij hi
              · cases hi
            have HO2 : Hid (okFrom [] (l.take (j + 1)) = true) := by show _ = _; rw [HNX.out, decide_eq_false hin]; rfl
            clear hin
            go_wp2
            go_roundw
            case rel => exact ⟨j + 1, by omega, by go_num, HV, HO2⟩
            case measure => simp [intOf]; omega
    · obtain rfl : k = l.length := by omega
      obtain rfl : r = 0 := HYes.out (by rw [HMT.out]; have := HOK.out; rw [List.take_length] at this; exact this)
      go_wp2
      go_ret
      exact ⟨rfl, HWw.out⟩
end Go.Proofs.YtfbjgadgfjnamaaGreatDoor.Tm
