/- Core: the image of a node. -/
import Derived.Test.YtfbjgadgfjnamaaGreatDoorZCoJ
import Derived.Test.YtfbjgadgfjnamaaGreatDoorZCoI
namespace Go.Proofs.YtfbjgadgfjnamaaGreatDoor.Tm
open Go.RowKit
set_option linter.unusedVariables false
/-- The kind's own function puts the image. -/
theorem kind_any (P : Nat → Prop) (M : Nat) (most : Int) (s : MkS) (n : NodeA) (r : MkS × Int) (w : World) (h : MkR w P M most s) (hm : most ≤ 2000) (hn : NodeOk n) (hs : standsB n s.l.length = true) (hr : imgM most s n = r) :
    Calls Tryz.prog (kindF n.op) #[.pointer (some ⟨M, 0, none⟩), .agg #[.int .i8 n.op, .int .i8 n.len, .int .i64 n.a0, .int .i64 n.a1, .int .i64 n.a2, .int .i64 n.sort, .int .i64 n.fn, .int .i64 n.num]] w (MkPost P M most w r) := by
  have hs' : s.e = 0 → standsB n s.l.length = true := fun _ => hs
  have hst := hs
  unfold standsB at hst
  rw [decide_eq_true_eq] at hst
  obtain ⟨⟨h0, h1, h2⟩, _, ⟨a0, _⟩, ⟨a1, _⟩, ⟨a2, _⟩⟩ := hst
  have hl : n.op = 13 ∨ n.len = arityA n.op := by
    by_cases h13 : n.op = 13
    · exact .inl h13
    · rw [if_neg h13] at h2
      split at h2
      · exact .inr h2.1
      · exact .inr h2.1
  have p0 : (0 : Int) < n.len → PlA s n.a0 := fun h => a0 h
  have p1 : (1 : Int) < n.len → PlA s n.a1 := fun h => a1 h
  have p2 : (2 : Int) < n.len → PlA s n.a2 := fun h => a2 h
  unfold imgM at hr
  unfold kindF
  by_cases c1 : n.op = 1
  · rw [if_pos c1] at hr ⊢; exact not_any P M most s n r w h hm hn (p0 (by rcases hl with h | h <;> first | omega | (rw [h, c1]; decide))) hs' hr
  rw [if_neg c1] at hr ⊢
  by_cases c4 : n.op = 4
  · have hl : n.len = 2 := by rcases hl with h | h <;> first | omega | (rw [h, c4]; decide)
    rw [if_pos c4] at hr ⊢; exact xor_any P M most s n r w h hm (p0 (by omega)) (p1 (by omega)) hr
  rw [if_neg c4] at hr ⊢
  by_cases c5 : n.op = 5
  · have hl : n.len = 2 := by rcases hl with h | h <;> first | omega | (rw [h, c5]; decide)
    rw [if_pos c5] at hr ⊢; exact imp_any P M most s n r w h hm (p0 (by omega)) (p1 (by omega)) hr
  rw [if_neg c5] at hr ⊢
  by_cases c6 : n.op = 6
  · have hl : n.len = 2 := by rcases hl with h | h <;> first | omega | (rw [h, c6]; decide)
    rw [if_pos c6] at hr ⊢; exact eq_any P M most s n r w h hm hn (p0 (by omega)) (p1 (by omega)) hs' hr
  rw [if_neg c6] at hr ⊢
  by_cases c7 : n.op = 7
  · have hl : n.len = 3 := by rcases hl with h | h <;> first | omega | (rw [h, c7]; decide)
    rw [if_pos c7] at hr ⊢; exact ite_any P M most s n r w h hm hn (p1 (by omega)) (p2 (by omega)) hs' hr
  rw [if_neg c7] at hr ⊢
  by_cases c8 : n.op = 8
  · have hl : n.len = 2 := by rcases hl with h | h <;> first | omega | (rw [h, c8]; decide)
    rw [if_pos c8] at hr ⊢; exact le3_any P M most s n r w h hm hn (p0 (by omega)) (p1 (by omega)) hr
  rw [if_neg c8] at hr ⊢
  by_cases c9 : n.op = 9
  · have hl : n.len = 2 := by rcases hl with h | h <;> first | omega | (rw [h, c9]; decide)
    rw [if_pos c9] at hr ⊢; exact lt_any P M most s n r w h hm hn (p0 (by omega)) (p1 (by omega)) hr
  rw [if_neg c9] at hr ⊢
  by_cases c11 : n.op = 11
  · have hl : n.len = 1 := by rcases hl with h | h <;> first | omega | (rw [h, c11]; decide)
    rw [if_pos c11] at hr ⊢; exact sum_any P M most s n r w h hm hn c11 (p0 (by omega)) hs' hr
  rw [if_neg c11] at hr ⊢
  by_cases c12 : n.op = 12
  · have hl : n.len = 2 := by rcases hl with h | h <;> first | omega | (rw [h, c12]; decide)
    rw [if_pos c12] at hr ⊢; exact diff_any P M most s n r w h hm hn (p0 (by omega)) (p1 (by omega)) hr
  rw [if_neg c12] at hr ⊢
  exact put_any P M most s n r w h hm hn hs' hr
theorem op_rng {n : NodeA} {k : Nat} (h : standsB n k = true) : 0 ≤ n.op ∧ n.op < 14 := by
  unfold standsB at h
  rw [decide_eq_true_eq] at h
  exact ⟨h.1.1, h.1.2.1⟩
theorem image_S {w W0 V : World} {P : Nat → Prop} {M : Nat} {most : Int} {s s' : MkS} {op len a0 a1 a2 sort fn num : Int} (h : NdB w W0 P M most s ⟨op, len, a0, a1, a2, sort, fn, num⟩) (hk : Kp (And1 P w.heap.size) W0 V) (hm : MkR V (And1 P w.heap.size) M most s') (j : Nat) (hj : j < 14) : V.cell? ⟨w.heap.size, 0, none⟩ = some (.int .i8 op) ∧ V.cell? ⟨w.heap.size, 1, none⟩ = some (.int .i8 len) ∧ V.cell? ⟨w.heap.size, 2, none⟩ = some (.int .i64 a0) ∧ V.cell? ⟨w.heap.size, 3, none⟩ = some (.int .i64 a1) ∧ V.cell? ⟨w.heap.size, 4, none⟩ = some (.int .i64 a2) ∧ V.cell? ⟨w.heap.size, 5, none⟩ = some (.int .i64 sort) ∧ V.cell? ⟨w.heap.size, 6, none⟩ = some (.int .i64 fn) ∧ V.cell? ⟨w.heap.size, 7, none⟩ = some (.int .i64 num) ∧ V.cell? ⟨M, 3 + j, none⟩ = some (fnV (kindF (j : Int))) := by
  obtain ⟨n0, n1, n2, n3, n4, n5, n6, n7, _⟩ := h.cellsX hk
  obtain ⟨a, c, b, hX⟩ := hm
  exact ⟨n0, n1, n2, n3, n4, n5, n6, n7, hX.kind j hj⟩
set_option maxRecDepth 100000 in
set_option maxHeartbeats 2000000 in
theorem image_any (P : Nat → Prop) (M : Nat) (most : Int) (s : MkS) (n : NodeA) (r : MkS × Int) (w : World) (h : MkR w P M most s) (hm : most ≤ 2000) (hn : NodeOk n) (hs : standsB n s.l.length = true) (hr : imgM most s n = r) :
    Calls Tryz.prog 39 #[.pointer (some ⟨M, 0, none⟩), .agg #[.int .i8 n.op, .int .i8 n.len, .int .i64 n.a0, .int .i64 n.a1, .int .i64 n.a2, .int .i64 n.sort, .int .i64 n.fn, .int .i64 n.num]] w fun e w' => e = .returned (.tuple #[.int .i64 r.2, .int .i64 r.1.e]) ∧ MkR w' P M most r.1 ∧ Kp P w w' := by
  obtain ⟨op, len, a0, a1, a2, sort, fn, num⟩ := n
  obtain ⟨o0, o1⟩ := op_rng hs
  have o0 : 0 ≤ op := o0
  have o1 : op < 14 := o1
  obtain ⟨j, rfl⟩ : ∃ j : Nat, op = j := ⟨op.toNat, by omega⟩
  have hj : j < 14 := by omega
  show Calls _ _ #[.pointer (some ⟨M, 0, none⟩), .agg #[.int .i8 j, .int .i8 len, .int .i64 a0, .int .i64 a1, .int .i64 a2, .int .i64 sort, .int .i64 fn, .int .i64 num]] _ _
  obtain ⟨W0, hW0⟩ : ∃ W0, W0 = w.alloc (.cells #[.int .i8 j, .int .i8 len, .int .i64 a0, .int .i64 a1, .int .i64 a2, .int .i64 sort, .int .i64 fn, .int .i64 num] 47) := ⟨_, rfl⟩
  have HN : Hid (NdB w W0 P M most s ⟨j, len, a0, a1, a2, sort, fn, num⟩) := by show NdB _ _ _ _ _ _ _; rw [hW0]; exact ndB h ⟨j, len, a0, a1, a2, sort, fn, num⟩
  obtain ⟨n0, n1, n2, n3, n4, n5, n6, n7, zn⟩ := HN.out.cellsX (Kp.refl _ _)
  have HC : Hid (∀ V, V.heap = W0.heap → Calls Tryz.prog (kindF (j : Int)) #[.pointer (some ⟨M, 0, none⟩), .agg #[.int .i8 j, .int .i8 len, .int .i64 a0, .int .i64 a1, .int .i64 a2, .int .i64 sort, .int .i64 fn, .int .i64 num]] V (MkPost (And1 P w.heap.size) M most V r)) := fun V hV => kind_any _ M most s ⟨j, len, a0, a1, a2, sort, fn, num⟩ r V (HN.out.mr.same hV) hm hn hs hr
  obtain ⟨a, c, b, hX⟩ := HN.out.mr
  have mk := hX.kind j hj
  have mlt := hX.lt
  unfold fnV at mk
  have HRo : Hid (∀ V, MkR V (And1 P w.heap.size) M most r.1 → Kp (And1 P w.heap.size) W0 V → MkR V P M most r.1 ∧ Kp P w V) := fun V h1 h2 => ⟨h1.less (fun _ h => .inl h), HN.out.kp.trans (h2.less (fun _ h => .inl h))⟩
  have HM := Lib.hid mk
  clear hX h hn hs hr o0 o1 mk
  have hc : j = 0 ∨ j = 1 ∨ j = 2 ∨ j = 3 ∨ j = 4 ∨ j = 5 ∨ j = 6 ∨ j = 7 ∨ j = 8 ∨ j = 9 ∨ j = 10 ∨ j = 11 ∨ j = 12 ∨ j = 13 := by omega
  clear hj
  rcases hc with rfl | rfl | rfl | rfl | rfl | rfl | rfl | rfl | rfl | rfl | rfl | rfl | rfl | rfl
  · have mk : W0.cell? ⟨M, 3, none⟩ = some (.func (.func 98) #[] #[]) := HM.out
    replace n0 : W0.cell? ⟨w.heap.size, 0, none⟩ = some (.int .i8 0) := n0
    replace hW0 : W0 = w.alloc (.cells #[.int .i8 0, .int .i8 len, .int .i64 a0, .int .i64 a1, .int .i64 a2, .int .i64 sort, .int .i64 fn, .int .i64 num] 47) := hW0
    have HC' : Hid (∀ V, V.heap = W0.heap → Calls Tryz.prog 98 #[.pointer (some ⟨M, 0, none⟩), .agg #[.int .i8 0, .int .i8 len, .int .i64 a0, .int .i64 a1, .int .i64 a2, .int .i64 sort, .int .i64 fn, .int .i64 num]] V (MkPost (And1 P w.heap.size) M most V r)) := HC.out
    show Calls _ _ #[.pointer (some ⟨M, 0, none⟩), .agg #[.int .i8 0, .int .i8 len, .int .i64 a0, .int .i64 a1, .int .i64 a2, .int .i64 sort, .int .i64 fn, .int .i64 num]] _ _
    clear HC HM
    have HQ0 := Lib.hid (image_S HN.out (Kp.drew (Kp.refl _ W0)) HN.out.mr.drew 0 (by decide))
    go_enter Tryz.func39, Tryz.ntmps39
    go_wp2_with fail
    rw [← hW0]
    clear hW0
    go_region_held3 (fun V => V.cell? ⟨w.heap.size, 0, none⟩ = some (.int .i8 0) ∧ V.cell? ⟨w.heap.size, 1, none⟩ = some (.int .i8 len) ∧ V.cell? ⟨w.heap.size, 2, none⟩ = some (.int .i64 a0) ∧ V.cell? ⟨w.heap.size, 3, none⟩ = some (.int .i64 a1) ∧ V.cell? ⟨w.heap.size, 4, none⟩ = some (.int .i64 a2) ∧ V.cell? ⟨w.heap.size, 5, none⟩ = some (.int .i64 sort) ∧ V.cell? ⟨w.heap.size, 6, none⟩ = some (.int .i64 fn) ∧ V.cell? ⟨w.heap.size, 7, none⟩ = some (.int .i64 num) ∧ V.cell? ⟨M, 3, none⟩ = some (.func (.func 98) #[] #[]))
      (first | exact HQ0.out | exact HQ.out)
      (first | (go_at_call 98; refine (HC'.out _ (by rfl)).mono ?_; rintro e w1 ⟨rfl, hm1, hk1⟩; have HM1 := Lib.hid hm1; have HK1 := Lib.hid (Kp.trans (Kp.drew (Kp.refl _ W0)) hk1); have HQ := Lib.hid (image_S HN.out HK1.out HM1.out 0 (by decide)); clear hm1 hk1))
    obtain ⟨a', c', b', hX'⟩ := HM1.out
    obtain ⟨m0, m1, m2, m17, mlt', mfz⟩ := hX'.cells
    clear n0 n1 n2 n3 n4 n5 n6 n7 zn mk mlt HC' HQ HQ0 hX' mfz
    go_wp2_with fail
    go_quiet (fail)
    go_wp2_with fail
    go_ret2
    obtain ⟨q1, q2⟩ := HRo.out _ HM1.out HK1.out
    exact ⟨rfl, q1.same rfl, q2.drewN _⟩
  · have mk : W0.cell? ⟨M, 4, none⟩ = some (.func (.func 99) #[] #[]) := HM.out
    replace n0 : W0.cell? ⟨w.heap.size, 0, none⟩ = some (.int .i8 1) := n0
    replace hW0 : W0 = w.alloc (.cells #[.int .i8 1, .int .i8 len, .int .i64 a0, .int .i64 a1, .int .i64 a2, .int .i64 sort, .int .i64 fn, .int .i64 num] 47) := hW0
    have HC' : Hid (∀ V, V.heap = W0.heap → Calls Tryz.prog 99 #[.pointer (some ⟨M, 0, none⟩), .agg #[.int .i8 1, .int .i8 len, .int .i64 a0, .int .i64 a1, .int .i64 a2, .int .i64 sort, .int .i64 fn, .int .i64 num]] V (MkPost (And1 P w.heap.size) M most V r)) := HC.out
    show Calls _ _ #[.pointer (some ⟨M, 0, none⟩), .agg #[.int .i8 1, .int .i8 len, .int .i64 a0, .int .i64 a1, .int .i64 a2, .int .i64 sort, .int .i64 fn, .int .i64 num]] _ _
    clear HC HM
    have HQ0 := Lib.hid (image_S HN.out (Kp.drew (Kp.refl _ W0)) HN.out.mr.drew 1 (by decide))
    go_enter Tryz.func39, Tryz.ntmps39
    go_wp2_with fail
    rw [← hW0]
    clear hW0
    go_region_held3 (fun V => V.cell? ⟨w.heap.size, 0, none⟩ = some (.int .i8 1) ∧ V.cell? ⟨w.heap.size, 1, none⟩ = some (.int .i8 len) ∧ V.cell? ⟨w.heap.size, 2, none⟩ = some (.int .i64 a0) ∧ V.cell? ⟨w.heap.size, 3, none⟩ = some (.int .i64 a1) ∧ V.cell? ⟨w.heap.size, 4, none⟩ = some (.int .i64 a2) ∧ V.cell? ⟨w.heap.size, 5, none⟩ = some (.int .i64 sort) ∧ V.cell? ⟨w.heap.size, 6, none⟩ = some (.int .i64 fn) ∧ V.cell? ⟨w.heap.size, 7, none⟩ = some (.int .i64 num) ∧ V.cell? ⟨M, 4, none⟩ = some (.func (.func 99) #[] #[]))
      (first | exact HQ0.out | exact HQ.out)
      (first | (go_at_call 99; refine (HC'.out _ (by rfl)).mono ?_; rintro e w1 ⟨rfl, hm1, hk1⟩; have HM1 := Lib.hid hm1; have HK1 := Lib.hid (Kp.trans (Kp.drew (Kp.refl _ W0)) hk1); have HQ := Lib.hid (image_S HN.out HK1.out HM1.out 1 (by decide)); clear hm1 hk1))
    obtain ⟨a', c', b', hX'⟩ := HM1.out
    obtain ⟨m0, m1, m2, m17, mlt', mfz⟩ := hX'.cells
    clear n0 n1 n2 n3 n4 n5 n6 n7 zn mk mlt HC' HQ HQ0 hX' mfz
    go_wp2_with fail
    go_quiet (fail)
    go_wp2_with fail
    go_ret2
    obtain ⟨q1, q2⟩ := HRo.out _ HM1.out HK1.out
    exact ⟨rfl, q1.same rfl, q2.drewN _⟩
  · have mk : W0.cell? ⟨M, 5, none⟩ = some (.func (.func 98) #[] #[]) := HM.out
    replace n0 : W0.cell? ⟨w.heap.size, 0, none⟩ = some (.int .i8 2) := n0
    replace hW0 : W0 = w.alloc (.cells #[.int .i8 2, .int .i8 len, .int .i64 a0, .int .i64 a1, .int .i64 a2, .int .i64 sort, .int .i64 fn, .int .i64 num] 47) := hW0
    have HC' : Hid (∀ V, V.heap = W0.heap → Calls Tryz.prog 98 #[.pointer (some ⟨M, 0, none⟩), .agg #[.int .i8 2, .int .i8 len, .int .i64 a0, .int .i64 a1, .int .i64 a2, .int .i64 sort, .int .i64 fn, .int .i64 num]] V (MkPost (And1 P w.heap.size) M most V r)) := HC.out
    show Calls _ _ #[.pointer (some ⟨M, 0, none⟩), .agg #[.int .i8 2, .int .i8 len, .int .i64 a0, .int .i64 a1, .int .i64 a2, .int .i64 sort, .int .i64 fn, .int .i64 num]] _ _
    clear HC HM
    have HQ0 := Lib.hid (image_S HN.out (Kp.drew (Kp.refl _ W0)) HN.out.mr.drew 2 (by decide))
    go_enter Tryz.func39, Tryz.ntmps39
    go_wp2_with fail
    rw [← hW0]
    clear hW0
    go_region_held3 (fun V => V.cell? ⟨w.heap.size, 0, none⟩ = some (.int .i8 2) ∧ V.cell? ⟨w.heap.size, 1, none⟩ = some (.int .i8 len) ∧ V.cell? ⟨w.heap.size, 2, none⟩ = some (.int .i64 a0) ∧ V.cell? ⟨w.heap.size, 3, none⟩ = some (.int .i64 a1) ∧ V.cell? ⟨w.heap.size, 4, none⟩ = some (.int .i64 a2) ∧ V.cell? ⟨w.heap.size, 5, none⟩ = some (.int .i64 sort) ∧ V.cell? ⟨w.heap.size, 6, none⟩ = some (.int .i64 fn) ∧ V.cell? ⟨w.heap.size, 7, none⟩ = some (.int .i64 num) ∧ V.cell? ⟨M, 5, none⟩ = some (.func (.func 98) #[] #[]))
      (first | exact HQ0.out | exact HQ.out)
      (first | (go_at_call 98; refine (HC'.out _ (by rfl)).mono ?_; rintro e w1 ⟨rfl, hm1, hk1⟩; have HM1 := Lib.hid hm1; have HK1 := Lib.hid (Kp.trans (Kp.drew (Kp.refl _ W0)) hk1); have HQ := Lib.hid (image_S HN.out HK1.out HM1.out 2 (by decide)); clear hm1 hk1))
    obtain ⟨a', c', b', hX'⟩ := HM1.out
    obtain ⟨m0, m1, m2, m17, mlt', mfz⟩ := hX'.cells
    clear n0 n1 n2 n3 n4 n5 n6 n7 zn mk mlt HC' HQ HQ0 hX' mfz
    go_wp2_with fail
    go_quiet (fail)
    go_wp2_with fail
    go_ret2
    obtain ⟨q1, q2⟩ := HRo.out _ HM1.out HK1.out
    exact ⟨rfl, q1.same rfl, q2.drewN _⟩
  · have mk : W0.cell? ⟨M, 6, none⟩ = some (.func (.func 98) #[] #[]) := HM.out
    replace n0 : W0.cell? ⟨w.heap.size, 0, none⟩ = some (.int .i8 3) := n0
    replace hW0 : W0 = w.alloc (.cells #[.int .i8 3, .int .i8 len, .int .i64 a0, .int .i64 a1, .int .i64 a2, .int .i64 sort, .int .i64 fn, .int .i64 num] 47) := hW0
    have HC' : Hid (∀ V, V.heap = W0.heap → Calls Tryz.prog 98 #[.pointer (some ⟨M, 0, none⟩), .agg #[.int .i8 3, .int .i8 len, .int .i64 a0, .int .i64 a1, .int .i64 a2, .int .i64 sort, .int .i64 fn, .int .i64 num]] V (MkPost (And1 P w.heap.size) M most V r)) := HC.out
    show Calls _ _ #[.pointer (some ⟨M, 0, none⟩), .agg #[.int .i8 3, .int .i8 len, .int .i64 a0, .int .i64 a1, .int .i64 a2, .int .i64 sort, .int .i64 fn, .int .i64 num]] _ _
    clear HC HM
    have HQ0 := Lib.hid (image_S HN.out (Kp.drew (Kp.refl _ W0)) HN.out.mr.drew 3 (by decide))
    go_enter Tryz.func39, Tryz.ntmps39
    go_wp2_with fail
    rw [← hW0]
    clear hW0
    go_region_held3 (fun V => V.cell? ⟨w.heap.size, 0, none⟩ = some (.int .i8 3) ∧ V.cell? ⟨w.heap.size, 1, none⟩ = some (.int .i8 len) ∧ V.cell? ⟨w.heap.size, 2, none⟩ = some (.int .i64 a0) ∧ V.cell? ⟨w.heap.size, 3, none⟩ = some (.int .i64 a1) ∧ V.cell? ⟨w.heap.size, 4, none⟩ = some (.int .i64 a2) ∧ V.cell? ⟨w.heap.size, 5, none⟩ = some (.int .i64 sort) ∧ V.cell? ⟨w.heap.size, 6, none⟩ = some (.int .i64 fn) ∧ V.cell? ⟨w.heap.size, 7, none⟩ = some (.int .i64 num) ∧ V.cell? ⟨M, 6, none⟩ = some (.func (.func 98) #[] #[]))
      (first | exact HQ0.out | exact HQ.out)
      (first | (go_at_call 98; refine (HC'.out _ (by rfl)).mono ?_; rintro e w1 ⟨rfl, hm1, hk1⟩; have HM1 := Lib.hid hm1; have HK1 := Lib.hid (Kp.trans (Kp.drew (Kp.refl _ W0)) hk1); have HQ := Lib.hid (image_S HN.out HK1.out HM1.out 3 (by decide)); clear hm1 hk1))
    obtain ⟨a', c', b', hX'⟩ := HM1.out
    obtain ⟨m0, m1, m2, m17, mlt', mfz⟩ := hX'.cells
    clear n0 n1 n2 n3 n4 n5 n6 n7 zn mk mlt HC' HQ HQ0 hX' mfz
    go_wp2_with fail
    go_quiet (fail)
    go_wp2_with fail
    go_ret2
    obtain ⟨q1, q2⟩ := HRo.out _ HM1.out HK1.out
    exact ⟨rfl, q1.same rfl, q2.drewN _⟩
  · have mk : W0.cell? ⟨M, 7, none⟩ = some (.func (.func 100) #[] #[]) := HM.out
    replace n0 : W0.cell? ⟨w.heap.size, 0, none⟩ = some (.int .i8 4) := n0
    replace hW0 : W0 = w.alloc (.cells #[.int .i8 4, .int .i8 len, .int .i64 a0, .int .i64 a1, .int .i64 a2, .int .i64 sort, .int .i64 fn, .int .i64 num] 47) := hW0
    have HC' : Hid (∀ V, V.heap = W0.heap → Calls Tryz.prog 100 #[.pointer (some ⟨M, 0, none⟩), .agg #[.int .i8 4, .int .i8 len, .int .i64 a0, .int .i64 a1, .int .i64 a2, .int .i64 sort, .int .i64 fn, .int .i64 num]] V (MkPost (And1 P w.heap.size) M most V r)) := HC.out
    show Calls _ _ #[.pointer (some ⟨M, 0, none⟩), .agg #[.int .i8 4, .int .i8 len, .int .i64 a0, .int .i64 a1, .int .i64 a2, .int .i64 sort, .int .i64 fn, .int .i64 num]] _ _
    clear HC HM
    have HQ0 := Lib.hid (image_S HN.out (Kp.drew (Kp.refl _ W0)) HN.out.mr.drew 4 (by decide))
    go_enter Tryz.func39, Tryz.ntmps39
    go_wp2_with fail
    rw [← hW0]
    clear hW0
    go_region_held3 (fun V => V.cell? ⟨w.heap.size, 0, none⟩ = some (.int .i8 4) ∧ V.cell? ⟨w.heap.size, 1, none⟩ = some (.int .i8 len) ∧ V.cell? ⟨w.heap.size, 2, none⟩ = some (.int .i64 a0) ∧ V.cell? ⟨w.heap.size, 3, none⟩ = some (.int .i64 a1) ∧ V.cell? ⟨w.heap.size, 4, none⟩ = some (.int .i64 a2) ∧ V.cell? ⟨w.heap.size, 5, none⟩ = some (.int .i64 sort) ∧ V.cell? ⟨w.heap.size, 6, none⟩ = some (.int .i64 fn) ∧ V.cell? ⟨w.heap.size, 7, none⟩ = some (.int .i64 num) ∧ V.cell? ⟨M, 7, none⟩ = some (.func (.func 100) #[] #[]))
      (first | exact HQ0.out | exact HQ.out)
      (first | (go_at_call 100; refine (HC'.out _ (by rfl)).mono ?_; rintro e w1 ⟨rfl, hm1, hk1⟩; have HM1 := Lib.hid hm1; have HK1 := Lib.hid (Kp.trans (Kp.drew (Kp.refl _ W0)) hk1); have HQ := Lib.hid (image_S HN.out HK1.out HM1.out 4 (by decide)); clear hm1 hk1))
    obtain ⟨a', c', b', hX'⟩ := HM1.out
    obtain ⟨m0, m1, m2, m17, mlt', mfz⟩ := hX'.cells
    clear n0 n1 n2 n3 n4 n5 n6 n7 zn mk mlt HC' HQ HQ0 hX' mfz
    go_wp2_with fail
    go_quiet (fail)
    go_wp2_with fail
    go_ret2
    obtain ⟨q1, q2⟩ := HRo.out _ HM1.out HK1.out
    exact ⟨rfl, q1.same rfl, q2.drewN _⟩
  · have mk : W0.cell? ⟨M, 8, none⟩ = some (.func (.func 101) #[] #[]) := HM.out
    replace n0 : W0.cell? ⟨w.heap.size, 0, none⟩ = some (.int .i8 5) := n0
    replace hW0 : W0 = w.alloc (.cells #[.int .i8 5, .int .i8 len, .int .i64 a0, .int .i64 a1, .int .i64 a2, .int .i64 sort, .int .i64 fn, .int .i64 num] 47) := hW0
    have HC' : Hid (∀ V, V.heap = W0.heap → Calls Tryz.prog 101 #[.pointer (some ⟨M, 0, none⟩), .agg #[.int .i8 5, .int .i8 len, .int .i64 a0, .int .i64 a1, .int .i64 a2, .int .i64 sort, .int .i64 fn, .int .i64 num]] V (MkPost (And1 P w.heap.size) M most V r)) := HC.out
    show Calls _ _ #[.pointer (some ⟨M, 0, none⟩), .agg #[.int .i8 5, .int .i8 len, .int .i64 a0, .int .i64 a1, .int .i64 a2, .int .i64 sort, .int .i64 fn, .int .i64 num]] _ _
    clear HC HM
    have HQ0 := Lib.hid (image_S HN.out (Kp.drew (Kp.refl _ W0)) HN.out.mr.drew 5 (by decide))
    go_enter Tryz.func39, Tryz.ntmps39
    go_wp2_with fail
    rw [← hW0]
    clear hW0
    go_region_held3 (fun V => V.cell? ⟨w.heap.size, 0, none⟩ = some (.int .i8 5) ∧ V.cell? ⟨w.heap.size, 1, none⟩ = some (.int .i8 len) ∧ V.cell? ⟨w.heap.size, 2, none⟩ = some (.int .i64 a0) ∧ V.cell? ⟨w.heap.size, 3, none⟩ = some (.int .i64 a1) ∧ V.cell? ⟨w.heap.size, 4, none⟩ = some (.int .i64 a2) ∧ V.cell? ⟨w.heap.size, 5, none⟩ = some (.int .i64 sort) ∧ V.cell? ⟨w.heap.size, 6, none⟩ = some (.int .i64 fn) ∧ V.cell? ⟨w.heap.size, 7, none⟩ = some (.int .i64 num) ∧ V.cell? ⟨M, 8, none⟩ = some (.func (.func 101) #[] #[]))
      (first | exact HQ0.out | exact HQ.out)
      (first | (go_at_call 101; refine (HC'.out _ (by rfl)).mono ?_; rintro e w1 ⟨rfl, hm1, hk1⟩; have HM1 := Lib.hid hm1; have HK1 := Lib.hid (Kp.trans (Kp.drew (Kp.refl _ W0)) hk1); have HQ := Lib.hid (image_S HN.out HK1.out HM1.out 5 (by decide)); clear hm1 hk1))
    obtain ⟨a', c', b', hX'⟩ := HM1.out
    obtain ⟨m0, m1, m2, m17, mlt', mfz⟩ := hX'.cells
    clear n0 n1 n2 n3 n4 n5 n6 n7 zn mk mlt HC' HQ HQ0 hX' mfz
    go_wp2_with fail
    go_quiet (fail)
    go_wp2_with fail
    go_ret2
    obtain ⟨q1, q2⟩ := HRo.out _ HM1.out HK1.out
    exact ⟨rfl, q1.same rfl, q2.drewN _⟩
  · have mk : W0.cell? ⟨M, 9, none⟩ = some (.func (.func 102) #[] #[]) := HM.out
    replace n0 : W0.cell? ⟨w.heap.size, 0, none⟩ = some (.int .i8 6) := n0
    replace hW0 : W0 = w.alloc (.cells #[.int .i8 6, .int .i8 len, .int .i64 a0, .int .i64 a1, .int .i64 a2, .int .i64 sort, .int .i64 fn, .int .i64 num] 47) := hW0
    have HC' : Hid (∀ V, V.heap = W0.heap → Calls Tryz.prog 102 #[.pointer (some ⟨M, 0, none⟩), .agg #[.int .i8 6, .int .i8 len, .int .i64 a0, .int .i64 a1, .int .i64 a2, .int .i64 sort, .int .i64 fn, .int .i64 num]] V (MkPost (And1 P w.heap.size) M most V r)) := HC.out
    show Calls _ _ #[.pointer (some ⟨M, 0, none⟩), .agg #[.int .i8 6, .int .i8 len, .int .i64 a0, .int .i64 a1, .int .i64 a2, .int .i64 sort, .int .i64 fn, .int .i64 num]] _ _
    clear HC HM
    have HQ0 := Lib.hid (image_S HN.out (Kp.drew (Kp.refl _ W0)) HN.out.mr.drew 6 (by decide))
    go_enter Tryz.func39, Tryz.ntmps39
    go_wp2_with fail
    rw [← hW0]
    clear hW0
    go_region_held3 (fun V => V.cell? ⟨w.heap.size, 0, none⟩ = some (.int .i8 6) ∧ V.cell? ⟨w.heap.size, 1, none⟩ = some (.int .i8 len) ∧ V.cell? ⟨w.heap.size, 2, none⟩ = some (.int .i64 a0) ∧ V.cell? ⟨w.heap.size, 3, none⟩ = some (.int .i64 a1) ∧ V.cell? ⟨w.heap.size, 4, none⟩ = some (.int .i64 a2) ∧ V.cell? ⟨w.heap.size, 5, none⟩ = some (.int .i64 sort) ∧ V.cell? ⟨w.heap.size, 6, none⟩ = some (.int .i64 fn) ∧ V.cell? ⟨w.heap.size, 7, none⟩ = some (.int .i64 num) ∧ V.cell? ⟨M, 9, none⟩ = some (.func (.func 102) #[] #[]))
      (first | exact HQ0.out | exact HQ.out)
      (first | (go_at_call 102; refine (HC'.out _ (by rfl)).mono ?_; rintro e w1 ⟨rfl, hm1, hk1⟩; have HM1 := Lib.hid hm1; have HK1 := Lib.hid (Kp.trans (Kp.drew (Kp.refl _ W0)) hk1); have HQ := Lib.hid (image_S HN.out HK1.out HM1.out 6 (by decide)); clear hm1 hk1))
    obtain ⟨a', c', b', hX'⟩ := HM1.out
    obtain ⟨m0, m1, m2, m17, mlt', mfz⟩ := hX'.cells
    clear n0 n1 n2 n3 n4 n5 n6 n7 zn mk mlt HC' HQ HQ0 hX' mfz
    go_wp2_with fail
    go_quiet (fail)
    go_wp2_with fail
    go_ret2
    obtain ⟨q1, q2⟩ := HRo.out _ HM1.out HK1.out
    exact ⟨rfl, q1.same rfl, q2.drewN _⟩
  · have mk : W0.cell? ⟨M, 10, none⟩ = some (.func (.func 103) #[] #[]) := HM.out
    replace n0 : W0.cell? ⟨w.heap.size, 0, none⟩ = some (.int .i8 7) := n0
    replace hW0 : W0 = w.alloc (.cells #[.int .i8 7, .int .i8 len, .int .i64 a0, .int .i64 a1, .int .i64 a2, .int .i64 sort, .int .i64 fn, .int .i64 num] 47) := hW0
    have HC' : Hid (∀ V, V.heap = W0.heap → Calls Tryz.prog 103 #[.pointer (some ⟨M, 0, none⟩), .agg #[.int .i8 7, .int .i8 len, .int .i64 a0, .int .i64 a1, .int .i64 a2, .int .i64 sort, .int .i64 fn, .int .i64 num]] V (MkPost (And1 P w.heap.size) M most V r)) := HC.out
    show Calls _ _ #[.pointer (some ⟨M, 0, none⟩), .agg #[.int .i8 7, .int .i8 len, .int .i64 a0, .int .i64 a1, .int .i64 a2, .int .i64 sort, .int .i64 fn, .int .i64 num]] _ _
    clear HC HM
    have HQ0 := Lib.hid (image_S HN.out (Kp.drew (Kp.refl _ W0)) HN.out.mr.drew 7 (by decide))
    go_enter Tryz.func39, Tryz.ntmps39
    go_wp2_with fail
    rw [← hW0]
    clear hW0
    go_region_held3 (fun V => V.cell? ⟨w.heap.size, 0, none⟩ = some (.int .i8 7) ∧ V.cell? ⟨w.heap.size, 1, none⟩ = some (.int .i8 len) ∧ V.cell? ⟨w.heap.size, 2, none⟩ = some (.int .i64 a0) ∧ V.cell? ⟨w.heap.size, 3, none⟩ = some (.int .i64 a1) ∧ V.cell? ⟨w.heap.size, 4, none⟩ = some (.int .i64 a2) ∧ V.cell? ⟨w.heap.size, 5, none⟩ = some (.int .i64 sort) ∧ V.cell? ⟨w.heap.size, 6, none⟩ = some (.int .i64 fn) ∧ V.cell? ⟨w.heap.size, 7, none⟩ = some (.int .i64 num) ∧ V.cell? ⟨M, 10, none⟩ = some (.func (.func 103) #[] #[]))
      (first | exact HQ0.out | exact HQ.out)
      (first | (go_at_call 103; refine (HC'.out _ (by rfl)).mono ?_; rintro e w1 ⟨rfl, hm1, hk1⟩; have HM1 := Lib.hid hm1; have HK1 := Lib.hid (Kp.trans (Kp.drew (Kp.refl _ W0)) hk1); have HQ := Lib.hid (image_S HN.out HK1.out HM1.out 7 (by decide)); clear hm1 hk1))
    obtain ⟨a', c', b', hX'⟩ := HM1.out
    obtain ⟨m0, m1, m2, m17, mlt', mfz⟩ := hX'.cells
    clear n0 n1 n2 n3 n4 n5 n6 n7 zn mk mlt HC' HQ HQ0 hX' mfz
    go_wp2_with fail
    go_quiet (fail)
    go_wp2_with fail
    go_ret2
    obtain ⟨q1, q2⟩ := HRo.out _ HM1.out HK1.out
    exact ⟨rfl, q1.same rfl, q2.drewN _⟩
  · have mk : W0.cell? ⟨M, 11, none⟩ = some (.func (.func 104) #[] #[]) := HM.out
    replace n0 : W0.cell? ⟨w.heap.size, 0, none⟩ = some (.int .i8 8) := n0
    replace hW0 : W0 = w.alloc (.cells #[.int .i8 8, .int .i8 len, .int .i64 a0, .int .i64 a1, .int .i64 a2, .int .i64 sort, .int .i64 fn, .int .i64 num] 47) := hW0
    have HC' : Hid (∀ V, V.heap = W0.heap → Calls Tryz.prog 104 #[.pointer (some ⟨M, 0, none⟩), .agg #[.int .i8 8, .int .i8 len, .int .i64 a0, .int .i64 a1, .int .i64 a2, .int .i64 sort, .int .i64 fn, .int .i64 num]] V (MkPost (And1 P w.heap.size) M most V r)) := HC.out
    show Calls _ _ #[.pointer (some ⟨M, 0, none⟩), .agg #[.int .i8 8, .int .i8 len, .int .i64 a0, .int .i64 a1, .int .i64 a2, .int .i64 sort, .int .i64 fn, .int .i64 num]] _ _
    clear HC HM
    have HQ0 := Lib.hid (image_S HN.out (Kp.drew (Kp.refl _ W0)) HN.out.mr.drew 8 (by decide))
    go_enter Tryz.func39, Tryz.ntmps39
    go_wp2_with fail
    rw [← hW0]
    clear hW0
    go_region_held3 (fun V => V.cell? ⟨w.heap.size, 0, none⟩ = some (.int .i8 8) ∧ V.cell? ⟨w.heap.size, 1, none⟩ = some (.int .i8 len) ∧ V.cell? ⟨w.heap.size, 2, none⟩ = some (.int .i64 a0) ∧ V.cell? ⟨w.heap.size, 3, none⟩ = some (.int .i64 a1) ∧ V.cell? ⟨w.heap.size, 4, none⟩ = some (.int .i64 a2) ∧ V.cell? ⟨w.heap.size, 5, none⟩ = some (.int .i64 sort) ∧ V.cell? ⟨w.heap.size, 6, none⟩ = some (.int .i64 fn) ∧ V.cell? ⟨w.heap.size, 7, none⟩ = some (.int .i64 num) ∧ V.cell? ⟨M, 11, none⟩ = some (.func (.func 104) #[] #[]))
      (first | exact HQ0.out | exact HQ.out)
      (first | (go_at_call 104; refine (HC'.out _ (by rfl)).mono ?_; rintro e w1 ⟨rfl, hm1, hk1⟩; have HM1 := Lib.hid hm1; have HK1 := Lib.hid (Kp.trans (Kp.drew (Kp.refl _ W0)) hk1); have HQ := Lib.hid (image_S HN.out HK1.out HM1.out 8 (by decide)); clear hm1 hk1))
    obtain ⟨a', c', b', hX'⟩ := HM1.out
    obtain ⟨m0, m1, m2, m17, mlt', mfz⟩ := hX'.cells
    clear n0 n1 n2 n3 n4 n5 n6 n7 zn mk mlt HC' HQ HQ0 hX' mfz
    go_wp2_with fail
    go_quiet (fail)
    go_wp2_with fail
    go_ret2
    obtain ⟨q1, q2⟩ := HRo.out _ HM1.out HK1.out
    exact ⟨rfl, q1.same rfl, q2.drewN _⟩
  · have mk : W0.cell? ⟨M, 12, none⟩ = some (.func (.func 105) #[] #[]) := HM.out
    replace n0 : W0.cell? ⟨w.heap.size, 0, none⟩ = some (.int .i8 9) := n0
    replace hW0 : W0 = w.alloc (.cells #[.int .i8 9, .int .i8 len, .int .i64 a0, .int .i64 a1, .int .i64 a2, .int .i64 sort, .int .i64 fn, .int .i64 num] 47) := hW0
    have HC' : Hid (∀ V, V.heap = W0.heap → Calls Tryz.prog 105 #[.pointer (some ⟨M, 0, none⟩), .agg #[.int .i8 9, .int .i8 len, .int .i64 a0, .int .i64 a1, .int .i64 a2, .int .i64 sort, .int .i64 fn, .int .i64 num]] V (MkPost (And1 P w.heap.size) M most V r)) := HC.out
    show Calls _ _ #[.pointer (some ⟨M, 0, none⟩), .agg #[.int .i8 9, .int .i8 len, .int .i64 a0, .int .i64 a1, .int .i64 a2, .int .i64 sort, .int .i64 fn, .int .i64 num]] _ _
    clear HC HM
    have HQ0 := Lib.hid (image_S HN.out (Kp.drew (Kp.refl _ W0)) HN.out.mr.drew 9 (by decide))
    go_enter Tryz.func39, Tryz.ntmps39
    go_wp2_with fail
    rw [← hW0]
    clear hW0
    go_region_held3 (fun V => V.cell? ⟨w.heap.size, 0, none⟩ = some (.int .i8 9) ∧ V.cell? ⟨w.heap.size, 1, none⟩ = some (.int .i8 len) ∧ V.cell? ⟨w.heap.size, 2, none⟩ = some (.int .i64 a0) ∧ V.cell? ⟨w.heap.size, 3, none⟩ = some (.int .i64 a1) ∧ V.cell? ⟨w.heap.size, 4, none⟩ = some (.int .i64 a2) ∧ V.cell? ⟨w.heap.size, 5, none⟩ = some (.int .i64 sort) ∧ V.cell? ⟨w.heap.size, 6, none⟩ = some (.int .i64 fn) ∧ V.cell? ⟨w.heap.size, 7, none⟩ = some (.int .i64 num) ∧ V.cell? ⟨M, 12, none⟩ = some (.func (.func 105) #[] #[]))
      (first | exact HQ0.out | exact HQ.out)
      (first | (go_at_call 105; refine (HC'.out _ (by rfl)).mono ?_; rintro e w1 ⟨rfl, hm1, hk1⟩; have HM1 := Lib.hid hm1; have HK1 := Lib.hid (Kp.trans (Kp.drew (Kp.refl _ W0)) hk1); have HQ := Lib.hid (image_S HN.out HK1.out HM1.out 9 (by decide)); clear hm1 hk1))
    obtain ⟨a', c', b', hX'⟩ := HM1.out
    obtain ⟨m0, m1, m2, m17, mlt', mfz⟩ := hX'.cells
    clear n0 n1 n2 n3 n4 n5 n6 n7 zn mk mlt HC' HQ HQ0 hX' mfz
    go_wp2_with fail
    go_quiet (fail)
    go_wp2_with fail
    go_ret2
    obtain ⟨q1, q2⟩ := HRo.out _ HM1.out HK1.out
    exact ⟨rfl, q1.same rfl, q2.drewN _⟩
  · have mk : W0.cell? ⟨M, 13, none⟩ = some (.func (.func 98) #[] #[]) := HM.out
    replace n0 : W0.cell? ⟨w.heap.size, 0, none⟩ = some (.int .i8 10) := n0
    replace hW0 : W0 = w.alloc (.cells #[.int .i8 10, .int .i8 len, .int .i64 a0, .int .i64 a1, .int .i64 a2, .int .i64 sort, .int .i64 fn, .int .i64 num] 47) := hW0
    have HC' : Hid (∀ V, V.heap = W0.heap → Calls Tryz.prog 98 #[.pointer (some ⟨M, 0, none⟩), .agg #[.int .i8 10, .int .i8 len, .int .i64 a0, .int .i64 a1, .int .i64 a2, .int .i64 sort, .int .i64 fn, .int .i64 num]] V (MkPost (And1 P w.heap.size) M most V r)) := HC.out
    show Calls _ _ #[.pointer (some ⟨M, 0, none⟩), .agg #[.int .i8 10, .int .i8 len, .int .i64 a0, .int .i64 a1, .int .i64 a2, .int .i64 sort, .int .i64 fn, .int .i64 num]] _ _
    clear HC HM
    have HQ0 := Lib.hid (image_S HN.out (Kp.drew (Kp.refl _ W0)) HN.out.mr.drew 10 (by decide))
    go_enter Tryz.func39, Tryz.ntmps39
    go_wp2_with fail
    rw [← hW0]
    clear hW0
    go_region_held3 (fun V => V.cell? ⟨w.heap.size, 0, none⟩ = some (.int .i8 10) ∧ V.cell? ⟨w.heap.size, 1, none⟩ = some (.int .i8 len) ∧ V.cell? ⟨w.heap.size, 2, none⟩ = some (.int .i64 a0) ∧ V.cell? ⟨w.heap.size, 3, none⟩ = some (.int .i64 a1) ∧ V.cell? ⟨w.heap.size, 4, none⟩ = some (.int .i64 a2) ∧ V.cell? ⟨w.heap.size, 5, none⟩ = some (.int .i64 sort) ∧ V.cell? ⟨w.heap.size, 6, none⟩ = some (.int .i64 fn) ∧ V.cell? ⟨w.heap.size, 7, none⟩ = some (.int .i64 num) ∧ V.cell? ⟨M, 13, none⟩ = some (.func (.func 98) #[] #[]))
      (first | exact HQ0.out | exact HQ.out)
      (first | (go_at_call 98; refine (HC'.out _ (by rfl)).mono ?_; rintro e w1 ⟨rfl, hm1, hk1⟩; have HM1 := Lib.hid hm1; have HK1 := Lib.hid (Kp.trans (Kp.drew (Kp.refl _ W0)) hk1); have HQ := Lib.hid (image_S HN.out HK1.out HM1.out 10 (by decide)); clear hm1 hk1))
    obtain ⟨a', c', b', hX'⟩ := HM1.out
    obtain ⟨m0, m1, m2, m17, mlt', mfz⟩ := hX'.cells
    clear n0 n1 n2 n3 n4 n5 n6 n7 zn mk mlt HC' HQ HQ0 hX' mfz
    go_wp2_with fail
    go_quiet (fail)
    go_wp2_with fail
    go_ret2
    obtain ⟨q1, q2⟩ := HRo.out _ HM1.out HK1.out
    exact ⟨rfl, q1.same rfl, q2.drewN _⟩
  · have mk : W0.cell? ⟨M, 14, none⟩ = some (.func (.func 106) #[] #[]) := HM.out
    replace n0 : W0.cell? ⟨w.heap.size, 0, none⟩ = some (.int .i8 11) := n0
    replace hW0 : W0 = w.alloc (.cells #[.int .i8 11, .int .i8 len, .int .i64 a0, .int .i64 a1, .int .i64 a2, .int .i64 sort, .int .i64 fn, .int .i64 num] 47) := hW0
    have HC' : Hid (∀ V, V.heap = W0.heap → Calls Tryz.prog 106 #[.pointer (some ⟨M, 0, none⟩), .agg #[.int .i8 11, .int .i8 len, .int .i64 a0, .int .i64 a1, .int .i64 a2, .int .i64 sort, .int .i64 fn, .int .i64 num]] V (MkPost (And1 P w.heap.size) M most V r)) := HC.out
    show Calls _ _ #[.pointer (some ⟨M, 0, none⟩), .agg #[.int .i8 11, .int .i8 len, .int .i64 a0, .int .i64 a1, .int .i64 a2, .int .i64 sort, .int .i64 fn, .int .i64 num]] _ _
    clear HC HM
    have HQ0 := Lib.hid (image_S HN.out (Kp.drew (Kp.refl _ W0)) HN.out.mr.drew 11 (by decide))
    go_enter Tryz.func39, Tryz.ntmps39
    go_wp2_with fail
    rw [← hW0]
    clear hW0
    go_region_held3 (fun V => V.cell? ⟨w.heap.size, 0, none⟩ = some (.int .i8 11) ∧ V.cell? ⟨w.heap.size, 1, none⟩ = some (.int .i8 len) ∧ V.cell? ⟨w.heap.size, 2, none⟩ = some (.int .i64 a0) ∧ V.cell? ⟨w.heap.size, 3, none⟩ = some (.int .i64 a1) ∧ V.cell? ⟨w.heap.size, 4, none⟩ = some (.int .i64 a2) ∧ V.cell? ⟨w.heap.size, 5, none⟩ = some (.int .i64 sort) ∧ V.cell? ⟨w.heap.size, 6, none⟩ = some (.int .i64 fn) ∧ V.cell? ⟨w.heap.size, 7, none⟩ = some (.int .i64 num) ∧ V.cell? ⟨M, 14, none⟩ = some (.func (.func 106) #[] #[]))
      (first | exact HQ0.out | exact HQ.out)
      (first | (go_at_call 106; refine (HC'.out _ (by rfl)).mono ?_; rintro e w1 ⟨rfl, hm1, hk1⟩; have HM1 := Lib.hid hm1; have HK1 := Lib.hid (Kp.trans (Kp.drew (Kp.refl _ W0)) hk1); have HQ := Lib.hid (image_S HN.out HK1.out HM1.out 11 (by decide)); clear hm1 hk1))
    obtain ⟨a', c', b', hX'⟩ := HM1.out
    obtain ⟨m0, m1, m2, m17, mlt', mfz⟩ := hX'.cells
    clear n0 n1 n2 n3 n4 n5 n6 n7 zn mk mlt HC' HQ HQ0 hX' mfz
    go_wp2_with fail
    go_quiet (fail)
    go_wp2_with fail
    go_ret2
    obtain ⟨q1, q2⟩ := HRo.out _ HM1.out HK1.out
    exact ⟨rfl, q1.same rfl, q2.drewN _⟩
  · have mk : W0.cell? ⟨M, 15, none⟩ = some (.func (.func 107) #[] #[]) := HM.out
    replace n0 : W0.cell? ⟨w.heap.size, 0, none⟩ = some (.int .i8 12) := n0
    replace hW0 : W0 = w.alloc (.cells #[.int .i8 12, .int .i8 len, .int .i64 a0, .int .i64 a1, .int .i64 a2, .int .i64 sort, .int .i64 fn, .int .i64 num] 47) := hW0
    have HC' : Hid (∀ V, V.heap = W0.heap → Calls Tryz.prog 107 #[.pointer (some ⟨M, 0, none⟩), .agg #[.int .i8 12, .int .i8 len, .int .i64 a0, .int .i64 a1, .int .i64 a2, .int .i64 sort, .int .i64 fn, .int .i64 num]] V (MkPost (And1 P w.heap.size) M most V r)) := HC.out
    show Calls _ _ #[.pointer (some ⟨M, 0, none⟩), .agg #[.int .i8 12, .int .i8 len, .int .i64 a0, .int .i64 a1, .int .i64 a2, .int .i64 sort, .int .i64 fn, .int .i64 num]] _ _
    clear HC HM
    have HQ0 := Lib.hid (image_S HN.out (Kp.drew (Kp.refl _ W0)) HN.out.mr.drew 12 (by decide))
    go_enter Tryz.func39, Tryz.ntmps39
    go_wp2_with fail
    rw [← hW0]
    clear hW0
    go_region_held3 (fun V => V.cell? ⟨w.heap.size, 0, none⟩ = some (.int .i8 12) ∧ V.cell? ⟨w.heap.size, 1, none⟩ = some (.int .i8 len) ∧ V.cell? ⟨w.heap.size, 2, none⟩ = some (.int .i64 a0) ∧ V.cell? ⟨w.heap.size, 3, none⟩ = some (.int .i64 a1) ∧ V.cell? ⟨w.heap.size, 4, none⟩ = some (.int .i64 a2) ∧ V.cell? ⟨w.heap.size, 5, none⟩ = some (.int .i64 sort) ∧ V.cell? ⟨w.heap.size, 6, none⟩ = some (.int .i64 fn) ∧ V.cell? ⟨w.heap.size, 7, none⟩ = some (.int .i64 num) ∧ V.cell? ⟨M, 15, none⟩ = some (.func (.func 107) #[] #[]))
      (first | exact HQ0.out | exact HQ.out)
      (first | (go_at_call 107; refine (HC'.out _ (by rfl)).mono ?_; rintro e w1 ⟨rfl, hm1, hk1⟩; have HM1 := Lib.hid hm1; have HK1 := Lib.hid (Kp.trans (Kp.drew (Kp.refl _ W0)) hk1); have HQ := Lib.hid (image_S HN.out HK1.out HM1.out 12 (by decide)); clear hm1 hk1))
    obtain ⟨a', c', b', hX'⟩ := HM1.out
    obtain ⟨m0, m1, m2, m17, mlt', mfz⟩ := hX'.cells
    clear n0 n1 n2 n3 n4 n5 n6 n7 zn mk mlt HC' HQ HQ0 hX' mfz
    go_wp2_with fail
    go_quiet (fail)
    go_wp2_with fail
    go_ret2
    obtain ⟨q1, q2⟩ := HRo.out _ HM1.out HK1.out
    exact ⟨rfl, q1.same rfl, q2.drewN _⟩
  · have mk : W0.cell? ⟨M, 16, none⟩ = some (.func (.func 98) #[] #[]) := HM.out
    replace n0 : W0.cell? ⟨w.heap.size, 0, none⟩ = some (.int .i8 13) := n0
    replace hW0 : W0 = w.alloc (.cells #[.int .i8 13, .int .i8 len, .int .i64 a0, .int .i64 a1, .int .i64 a2, .int .i64 sort, .int .i64 fn, .int .i64 num] 47) := hW0
    have HC' : Hid (∀ V, V.heap = W0.heap → Calls Tryz.prog 98 #[.pointer (some ⟨M, 0, none⟩), .agg #[.int .i8 13, .int .i8 len, .int .i64 a0, .int .i64 a1, .int .i64 a2, .int .i64 sort, .int .i64 fn, .int .i64 num]] V (MkPost (And1 P w.heap.size) M most V r)) := HC.out
    show Calls _ _ #[.pointer (some ⟨M, 0, none⟩), .agg #[.int .i8 13, .int .i8 len, .int .i64 a0, .int .i64 a1, .int .i64 a2, .int .i64 sort, .int .i64 fn, .int .i64 num]] _ _
    clear HC HM
    have HQ0 := Lib.hid (image_S HN.out (Kp.drew (Kp.refl _ W0)) HN.out.mr.drew 13 (by decide))
    go_enter Tryz.func39, Tryz.ntmps39
    go_wp2_with fail
    rw [← hW0]
    clear hW0
    go_region_held3 (fun V => V.cell? ⟨w.heap.size, 0, none⟩ = some (.int .i8 13) ∧ V.cell? ⟨w.heap.size, 1, none⟩ = some (.int .i8 len) ∧ V.cell? ⟨w.heap.size, 2, none⟩ = some (.int .i64 a0) ∧ V.cell? ⟨w.heap.size, 3, none⟩ = some (.int .i64 a1) ∧ V.cell? ⟨w.heap.size, 4, none⟩ = some (.int .i64 a2) ∧ V.cell? ⟨w.heap.size, 5, none⟩ = some (.int .i64 sort) ∧ V.cell? ⟨w.heap.size, 6, none⟩ = some (.int .i64 fn) ∧ V.cell? ⟨w.heap.size, 7, none⟩ = some (.int .i64 num) ∧ V.cell? ⟨M, 16, none⟩ = some (.func (.func 98) #[] #[]))
      (first | exact HQ0.out | exact HQ.out)
      (first | (go_at_call 98; refine (HC'.out _ (by rfl)).mono ?_; rintro e w1 ⟨rfl, hm1, hk1⟩; have HM1 := Lib.hid hm1; have HK1 := Lib.hid (Kp.trans (Kp.drew (Kp.refl _ W0)) hk1); have HQ := Lib.hid (image_S HN.out HK1.out HM1.out 13 (by decide)); clear hm1 hk1))
    obtain ⟨a', c', b', hX'⟩ := HM1.out
    obtain ⟨m0, m1, m2, m17, mlt', mfz⟩ := hX'.cells
    clear n0 n1 n2 n3 n4 n5 n6 n7 zn mk mlt HC' HQ HQ0 hX' mfz
    go_wp2_with fail
    go_quiet (fail)
    go_wp2_with fail
    go_ret2
    obtain ⟨q1, q2⟩ := HRo.out _ HM1.out HK1.out
    exact ⟨rfl, q1.same rfl, q2.drewN _⟩
end Go.Proofs.YtfbjgadgfjnamaaGreatDoor.Tm
