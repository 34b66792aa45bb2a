/- UnitsOnce. -/
import Derived.Test.YtaiclnlpehfdjaaDoorUoF
import Derived.Test.YtaiclnlpehfdjaaDoorClA
import Derived.BigQuiet
import Derived.Deep.RegionHeld3
import Derived.Test.YtaiclnlpehfdjaaDoorTk
namespace Go.Proofs.YtaiclnlpehfdjaaDoor.Tm
open Go.RowKit
set_option linter.unusedVariables false
theorem not_true {q : Bool} (h : q = true) : (!q) = false := by rw [h]; rfl
set_option maxRecDepth 100000 in
set_option maxHeartbeats 4000000 in
theorem UnitsOnce_c (w : World) (rs : List RowD) (a : Option Addr) (c : Nat) (hR : RowsR w rs a c) (gs : List Int) (b : Option Addr) (d : Nat) (hA : IntsR w gs b d) (hgl : gs.length ≤ 17592186043904) (hG : GC w) :
    Calls Tryd.prog 9 #[.slice a rs.length c, .slice b gs.length d] w fun e w' => e = .returned (.bool true) ∧ Below w.heap.size w w' := by
  obtain ⟨cls, hcl⟩ : ∃ cls, rs.map (·.xs) = cls := ⟨_, rfl⟩
  have HCl := Lib.hid hcl
  have HWk : Hid (∀ V, Below w.heap.size w V → Calls Tryd.prog 11 #[] V fun e w' => e = .returned (.bool true) ∧ Hid (Below w.heap.size w w')) := fun V hV => (wakes_any V (hG.below hV)).mono fun e w' ⟨h1, h2⟩ => ⟨h1, ball hV h2⟩
  have HGr : Hid (Calls Tryd.prog 10 #[.slice a rs.length c, .slice b gs.length d] w fun e w' => GrP e (SmallG rs gs) ∧ w = w') := great_any rs a c gs b d w hR hA
  have HRn : Hid (SmallG rs gs → Calls Tryd.prog 12 #[.slice a rs.length c, .slice b gs.length d] w fun e w' => ∃ r k a' c', e = .returned (.tuple #[.slice a' r.length c', .int .i64 k]) ∧ Hid (RunRel cls gs r k ∧ IntsR w' r a' c') ∧ Hid (Below w.heap.size w w')) := fun hS =>
    (Run_any rs a c gs b d cls w hcl hG hR hA (by have := hS.1.1; omega) (by rw [← hcl]; have := flat_sum hS.1.2; have := hS.1.1; omega) (by have := hS.2.1; omega)).mono fun e w' ⟨r, k, a', c', h0, h1, h2, h3⟩ => ⟨r, k, a', c', h0, ⟨h1, h2⟩, h3⟩
  have HBr : Hid (Below w.heap.size w w) := Below.refl _ _
  have HA : Hid (∀ V, Below w.heap.size w V → IntsR V gs b d) := fun V hV => hA.below hV
  have HR : Hid (∀ V, Below w.heap.size w V → RowsR V rs a c) := fun V hV => hR.below hV
  have l1 : rs.length ≤ c := hR.le
  have c1 : rs.length ≤ 9223372036854775807 := by have := hR.cap; simp only [maxLen] at this; omega
  clear hR hA hG hcl
  go_enter Tryd.func9, Tryd.ntmps9
  go_wp2_with fail
  with_reducible refine HGr.out.mono ?_
  rintro e w5 ⟨⟨q, rfl, hq⟩, rfl⟩
  cases q with
  | true =>
    clear hq
    go_wp2_with (first | (go_at_call 11; with_reducible refine (HWk.out _ HBr.out).mono ?_; rintro e wz ⟨rfl, HBz⟩))
    go_ret
    exact ⟨rfl, HBz.out⟩
  | false =>
    have HS : Hid (SmallG rs gs) := hq rfl
    have HRn' := Lib.hid (HRn.out HS.out)
    clear hq HRn
    go_wp2_with fail
    with_reducible refine HRn'.out.mono ?_
    rintro e w1 ⟨r, k, a1, c1', rfl, HX, HB1⟩
    have HInv := Lib.hid HX.out.1.inv
    have l2 : r.length ≤ c1' := HX.out.2.le
    have c2 : r.length ≤ 9223372036854775807 := by have := HX.out.2.cap; simp only [maxLen] at this; omega
    have HI : Hid (∀ V, Below w1.heap.size w1 V → IntsR V r a1 c1') := fun V hV => HX.out.2.below hV
    have HBb : Hid (∀ V, Below w1.heap.size w1 V → Below w.heap.size w V) := fun V hV => ball HB1.out hV
    have HB0 : Hid (Below w1.heap.size w1 w1) := Below.refl _ _
    clear HRn' HGr
    go_wp2_with fail
    go_loopw [7] (fun iv wr => ∃ i : Nat, i ≤ r.length ∧ iv = .int .i64 i ∧ Hid (Below w1.heap.size w1 wr)) (fun iv _ => r.length - (intOf iv).toNat)
    case atStart => exact ⟨0, Nat.zero_le _, rfl, HB0⟩
    case round =>
      obtain ⟨i, hil, rfl, HW⟩ := hrel
      by_cases hlt : i < r.length
      · obtain ⟨x, hx⟩ : ∃ x, r[i]? = some x := ⟨_, List.getElem?_eq_getElem hlt⟩
        have HXi := Lib.hid hx
        obtain ⟨g, o, rfl, hg, q0⟩ := (HI.out wr HW.out).cell hx
        obtain ⟨x0, x1⟩ : 0 ≤ x ∧ x ≤ 1048576 := mayU_iff.1 (HInv.out.1.may x (List.mem_of_getElem? hx))
        clear hx
        go_wp2_with fail
        rename World => wi
        go_loopw [8] (fun kv wr => ∃ k : Nat, k ≤ i ∧ kv = .int .i64 k ∧ Hid (Below w1.heap.size w1 wr)) (fun kv _ => i - (intOf kv).toNat)
        case atStart => exact ⟨0, Nat.zero_le _, rfl, HW⟩
        case round =>
          clear q0 hg
          obtain ⟨m, hmi, rfl, HW2⟩ := hrel
          obtain ⟨g', o', e', hg, q0⟩ := (HI.out wr HW2.out).cell HXi.out
          cases e'
          by_cases hlt2 : m < i
          · obtain ⟨y, hy⟩ : ∃ y, r[m]? = some y := ⟨_, List.getElem?_eq_getElem (by omega)⟩
            obtain ⟨g', o', e', _, q1⟩ := (HI.out wr HW2.out).cell hy
            cases e'
            obtain ⟨y0, y1⟩ : 0 ≤ y ∧ y ≤ 1048576 := mayU_iff.1 (HInv.out.1.may y (List.mem_of_getElem? hy))
            have hxy : (x / 2 == y / 2) = false := eq_f (HInv.out.1.half hlt2 HXi.out hy)
            clear hy
            go_wp2_with fail
            go_quiet (fail)
            go_wp2_with fail
            go_roundw
            case rel => exact ⟨m + 1, by omega, by go_num, below_drewN HW2.out⟩
            case measure => simp [intOf]; omega
          · obtain rfl : m = i := by omega
            have HWn : Hid (∀ V zs za zc q, IntsR V zs za zc → I64 x → decide (∀ z ∈ [x], z ∈ zs) = q → Calls Tryd.prog 24 #[.slice (some ⟨V.heap.size, 0, none⟩) 1 1, .slice za zs.length zc] (V.alloc (.cells #[.int .i64 x] 3)) fun e w' => e = .returned (.bool q) ∧ V.alloc (.cells #[.int .i64 x] 3) = w') := fun V zs za zc q h1 h2 h3 => by
              rw [← h3]
              exact Within_any [x] zs _ za 1 zc _ (ints_row (heap_alloc_new V _) (fun y hy => by rw [show y = x by simpa using hy]; exact h2) (by simp)) (h1.below ((Below.refl _ V).alloc (Nat.le_refl _) _))
            have hix : I64 x := ⟨by omega, by omega⟩
            have HIx := Lib.hid hix
            obtain ⟨q, hq⟩ : ∃ q, decide (∀ z ∈ [x], z ∈ gs) = q := ⟨_, rfl⟩
            have HW3 := Lib.hid (HWn.out wr gs b d q (HA.out wr (HBb.out _ HW2.out)) hix hq)
            have HQ : Hid (x ∈ gs → q = true) := fun h => by rw [within_one hq]; exact decide_eq_true h
            have HB3 : Hid (Below w1.heap.size w1 (wr.alloc (.cells #[.int .i64 x] 3))) := HW2.out.alloc HW2.out.size _
            clear hq hix
            go_wp2_with fail
            with_reducible refine HW3.out.mono ?_
            rintro e w6 ⟨rfl, rfl⟩
            clear HW3 q0
            go_wp2_with fail
            go_loopw [9, 10] (fun fv kv wr => ∃ (k : Nat) (q : Bool), k ≤ rs.length ∧ fv = .bool q ∧ kv = .int .i64 k ∧ Hid ((x ∈ gs ∨ ∃ j y, j < k ∧ rs[j]? = some y ∧ x ∈ y.xs) → q = true) ∧ Hid (Below w1.heap.size w1 wr)) (fun _ kv _ => rs.length - (intOf kv).toNat)
            case atStart => exact ⟨0, q, Nat.zero_le _, rfl, rfl, (fun h => h.elim HQ.out (fun ⟨j, y, hj, _⟩ => absurd hj (by omega))), HB3⟩
            case round =>
              clear hg
              obtain ⟨k, q, hkl, rfl, rfl, HF, HW4⟩ := hrel
              obtain ⟨g', o', e', hg, q0⟩ := (HI.out wr HW4.out).cell HXi.out
              cases e'
              by_cases hlt3 : k < rs.length
              · obtain ⟨y, hy⟩ : ∃ y, rs[k]? = some y := ⟨_, List.getElem?_eq_getElem hlt3⟩
                obtain ⟨g5, o5, rfl, hg5, q5⟩ := (HR.out wr (HBb.out _ HW4.out)).cell hy
                have HY := Lib.hid hy
                obtain ⟨q2, hq2⟩ : ∃ q2, decide (∀ z ∈ [x], z ∈ y.xs) = q2 := ⟨_, rfl⟩
                have HQ2 : Hid (x ∈ y.xs → q2 = true) := fun h => by rw [within_one hq2]; exact decide_eq_true h
                have HW5 : Hid (∀ n, Calls Tryd.prog 24 #[.slice (some ⟨wr.heap.size, 0, none⟩) 1 1, .slice y.a y.xs.length y.c] ((wr.drewN n).alloc (.cells #[.int .i64 x] 3)) fun e w' => e = .returned (.bool q2) ∧ (wr.drewN n).alloc (.cells #[.int .i64 x] 3) = w') := fun n => HWn.out (wr.drewN n) y.xs y.a y.c q2 (((HR.out wr (HBb.out _ HW4.out)).ok y (List.mem_of_getElem? hy)).below (below_drewN (Below.refl _ wr))) HIx.out hq2
                have HB5 : Hid (∀ n, Below w1.heap.size w1 ((wr.drewN n).alloc (.cells #[.int .i64 x] 3))) := fun n => (below_drewN HW4.out).alloc HW4.out.size _
                have HSx : Hid (∀ V, Below w1.heap.size w1 V → V.cell? ⟨g, o + m, none⟩ = some (.int .i64 x) ∧ V.cell? ⟨g5, o5 + k, none⟩ = some (.slice y.a y.xs.length y.c)) := fun V hV => by
                  obtain ⟨_, _, e1, _, k1⟩ := (HI.out V hV).cell HXi.out
                  cases e1
                  obtain ⟨_, _, e2, _, k2⟩ := (HR.out V (HBb.out _ hV)).cell HY.out
                  cases e2
                  exact ⟨k1, k2⟩
                clear hy hq2
                cases q with
                | true =>
                  have HN : Hid ((x ∈ gs ∨ ∃ j y, j < k + 1 ∧ rs[j]? = some y ∧ x ∈ y.xs) → true = true) := fun _ => rfl
                  go_wp2_with fail
                  refine wp_region_held_drew (S := fun _ => True) (by kernel_rfl) trivial (fun hHeld => ?_)
                  refine tkY 0 (.bool true) ?_
                  try simp only [kP, kA, kZ, kS]
                  refine tkY 1 (.bool true) ?_
                  try simp only [kP, kA, kZ, kS]
                  refine tkN 2 ?_
                  try simp only [kP, kA, kZ, kS]
                  refine tkN 3 ?_
                  try simp only [kP, kA, kZ, kS]
                  refine tkN 4 ?_
                  try simp only [kP, kA, kZ, kS]
                  refine tkN 5 ?_
                  try simp only [kP, kA, kZ, kS]
                  refine tkN 6 ?_
                  try simp only [kP, kA, kZ, kS]
                  refine tkN 7 ?_
                  try simp only [kP, kA, kZ, kS]
                  refine tkN 8 ?_
                  try simp only [kP, kA, kZ, kS]
                  refine tkN 9 ?_
                  try simp only [kP, kA, kZ, kS]
                  refine tkN 10 ?_
                  try simp only [kP, kA, kZ, kS]
                  refine tkN 11 ?_
                  try simp only [kP, kA, kZ, kS]
                  refine tkY 12 (.bool true) ?_
                  try simp only [kP, kA, kZ, kS]
                  refine tkY 13 (.bool true) ?_
                  try simp only [kP, kA, kZ, kS]
                  refine wpAnyH_done (by kernel_rfl) ?_ _
                  clear hHeld
                  go_wp2_with fail
                  go_roundw
                  case rel => exact ⟨k + 1, true, by omega, rfl, by go_num, fun _ => rfl, HW4.out.drew⟩
                  case measure => simp [intOf]; omega
                | false =>
                  have HN : Hid ((x ∈ gs ∨ ∃ j y, j < k + 1 ∧ rs[j]? = some y ∧ x ∈ y.xs) → q2 = true) := fun h => by
                    rcases h with h | ⟨j, z, hj, h1, h2⟩
                    · exact absurd (HF.out (.inl h)) (by decide)
                    · by_cases e : j = k
                      · subst e
                        rw [HY.out] at h1
                        cases h1
                        exact HQ2.out h2
                      · exact absurd (HF.out (.inr ⟨j, z, by omega, h1, h2⟩)) (by decide)
                  go_wp2_with fail
                  refine wp_region_held_drew (S := fun V => V.cell? ⟨g, o + m, none⟩ = some (.int .i64 x) ∧ V.cell? ⟨g5, o5 + k, none⟩ = some (.slice y.a y.xs.length y.c)) (by kernel_rfl) (HSx.out _ HW4.out.drew) (fun hHeld => ?_)
                  refine tkY 0 (.bool false) ?_
                  try simp only [kP, kA, kZ, kS]
                  refine tkY 1 (.bool false) ?_
                  try simp only [kP, kA, kZ, kS]
                  refine tkY 2 (.slice (some ⟨g, o, none⟩) r.length c1') ?_
                  try simp only [kP, kA, kZ, kS]
                  refine tkY 3 (.int .i64 m) ?_
                  try simp only [kP, kA, kZ, kS]
                  refine tkY 4 (.pointer (some ⟨g, o + m, none⟩)) ?_
                  try simp only [kP, kA, kZ, kS]
                  refine tkY 5 (.int .i64 x) ?_
                  try simp only [kP, kA, kZ, kS]
                  refine tkY 7 (.slice (some ⟨g5, o5, none⟩) rs.length c) ?_
                  try simp only [kP, kA, kZ, kS]
                  refine tkY 8 (.int .i64 k) ?_
                  try simp only [kP, kA, kZ, kS]
                  refine tkY 9 (.pointer (some ⟨g5, o5 + k, none⟩)) ?_
                  try simp only [kP, kA, kZ, kS]
                  refine tkY 10 (.slice y.a y.xs.length y.c) ?_
                  try simp only [kP, kA, kZ, kS]
                  refine wpAnyH_ready (rs := [6]) (by kernel_rfl) (by simp) ?_
                  refine AllReadyH.cons (o := { dst := some 62, op := Op.buildSlice 23 1 #[(0, Operand.tmp 61)], type := 23, pos := "law.go:187", after := #[{ on := 5, ground := Ground.data }, { on := 1, ground := Ground.guard }], guard := some (1, false) }) rfl (fun K hK => ?_) AllReadyH.nil
                  go_simp
                  refine hK.out _ _ ?_ (fun hHeld => ?_)
                  · exact HSx.out _ (HB5.out 1)
                  clear hK K
                  try simp only [kP, kA, kZ, kS]
                  refine wpAnyH_ready (rs := [11]) (by kernel_rfl) (by simp) ?_
                  refine AllReadyH.cons (o := { dst := some 67, op := Op.call { callee := Callee.value (Operand.func 24), args := #[Operand.tmp 62, Operand.tmp 66], argTypes := #[23, 23] }, type := 4, pos := "law.go:187", after := #[{ on := 6, ground := Ground.data }, { on := 10, ground := Ground.data }, { on := 1, ground := Ground.chain }, { on := 1, ground := Ground.guard }], guard := some (1, false) }) rfl (fun K hK => ?_) AllReadyH.nil
                  go_simp
                  go_at_call 24
                  refine (HW5.out 1).mono ?_
                  rintro e w7 ⟨rfl, rfl⟩
                  go_wp2_with fail
                  refine hK.out _ _ ?_ (fun hHeld => ?_)
                  · exact HSx.out _ (HB5.out 1)
                  clear hK K
                  try simp only [kP, kA, kZ, kS]
                  refine tkY 12 (.bool q2) ?_
                  try simp only [kP, kA, kZ, kS]
                  refine tkY 13 (.bool q2) ?_
                  try simp only [kP, kA, kZ, kS]
                  refine wpAnyH_done (by kernel_rfl) ?_ _
                  clear hHeld
                  go_wp2_with fail
                  go_roundw
                  case rel => exact ⟨k + 1, q2, by omega, rfl, by go_num, HN, HB5.out 1⟩
                  case measure => simp [intOf]; omega
              · obtain rfl : k = rs.length := by omega
                obtain rfl : q = true := HF.out (by
                  rcases HInv.out.2.1 x (List.mem_of_getElem? HXi.out) with h | ⟨cc, hc, hxc⟩
                  · exact .inl h
                  · rw [← HCl.out] at hc
                    obtain ⟨y, hy, rfl⟩ := List.mem_map.1 hc
                    obtain ⟨j, hj⟩ := List.getElem?_of_mem hy
                    exact .inr ⟨j, y, (List.getElem?_eq_some_iff.1 hj).1, hj, hxc⟩)
                have d0 : decide (x < 0) = false := decide_eq_false (by omega)
                go_wp2_with fail
                go_roundw
                case rel => exact ⟨m + 1, by omega, by go_num, HW4⟩
                case measure => simp [intOf]; omega
      · obtain rfl : i = r.length := by omega
        go_wp2_with (first | (go_at_call 11; with_reducible refine (HWk.out _ (HBb.out _ HW.out)).mono ?_; rintro e wz ⟨rfl, HBz⟩))
        go_ret
        exact ⟨rfl, HBz.out⟩
end Go.Proofs.YtaiclnlpehfdjaaDoor.Tm
