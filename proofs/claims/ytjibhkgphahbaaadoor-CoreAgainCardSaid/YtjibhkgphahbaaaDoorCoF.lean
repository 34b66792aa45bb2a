/- Core: implies, and what is told of differences. -/
import Derived.Test.YtjibhkgphahbaaaDoorCoD
import Derived.Deep.RegionHeld3
namespace Go.Proofs.YtjibhkgphahbaaaDoor.Tm
open Go.RowKit
set_option linter.unusedVariables false
set_option maxRecDepth 100000 in
set_option maxHeartbeats 1000000 in
theorem not_any (P : Nat → Prop) (M : Nat) (most : Int) (s : MkS) (n : NodeA) (r : MkS × Int) (w : World) (h : MkR w P M most s) (hm : most ≤ 2000) (hn : NodeOk n) (ha : PlA s n.a0) (hs : s.e = 0 → standsB n s.l.length = true) (hr : notM most s n = r) :
    Calls Tryd.prog 49 #[.pointer (some ⟨M, 0, none⟩), .agg #[.int .i8 n.op, .int .i8 n.len, .int .i64 n.a0, .int .i64 n.a1, .int .i64 n.a2, .int .i64 n.sort, .int .i64 n.fn, .int .i64 n.num]] w (MkPost P M most w r) := by
  obtain ⟨k, hk, hkl⟩ := ha.nat
  obtain ⟨W0, hW0⟩ : ∃ W0, W0 = w.alloc (.cells #[.int .i8 n.op, .int .i8 n.len, .int .i64 n.a0, .int .i64 n.a1, .int .i64 n.a2, .int .i64 n.sort, .int .i64 n.fn, .int .i64 n.num] 36) := ⟨_, rfl⟩
  have HN : Hid (NdB w W0 P M most s n) := by show NdB _ _ _ _ _ _ _; rw [hW0]; exact ndB h n
  obtain ⟨a, c, b, hX⟩ := HN.out.mr
  have hlen := h.inv.len
  have hg := nodA_get hkl
  obtain ⟨y, hy⟩ : ∃ y, nodA s.l (k : Int) = y := ⟨_, rfl⟩
  rw [hy] at hg
  obtain ⟨m0, m1, m2, m17, mlt, mfz⟩ := hX.cells
  obtain ⟨g, o, rfl, hgl, y0, y1, y2, y3, y4, y5, y6, y7⟩ := hX.tab.node hg
  obtain ⟨n0, n1, n2, n3, n4, n5, n6, n7, zn⟩ := HN.out.cells (Kp.refl _ _)
  rw [hk] at n2
  have hki : (k : Int) < (s.l.length : Int) := by omega
  have hk0 : (0 : Int) ≤ (k : Int) := by omega
  have HNo := Lib.hid hn
  have HI := Lib.hid (And.intro ha hs)
  clear hX mfz hg
  by_cases h1 : y.op = 1
  · have e1 := eq_t h1
    have hz : r = (s, y.a0) := by rw [← hr]; unfold notM; rw [hk, hy, if_pos h1]
    subst hz
    clear h1 hr hy hk h ha hs hn
    go_enter Tryd.func49, Tryd.ntmps49
    go_wp2_with fail
    rw [← hW0]
    clear hW0
    go_region
    refine exit_name ?_
    intro W1 hW1
    have hb1 : Below W0.heap.size W0 W1 := by rw [hW1]; exact ((Below.refl _ W0).alloc (Nat.le_refl _) _).drew
    have HM1 : Hid (MkR W1 (And1 P w.heap.size) M most s) := HN.out.mr.below hb1
    have HK1 : Hid (Kp (And1 P w.heap.size) W0 W1) := Kp.of hb1 HN.out.mr.lts
    have hy1 : W1.heap[W0.heap.size]? = some (.cells #[.int .i8 y.op, .int .i8 y.len, .int .i64 y.a0, .int .i64 y.a1, .int .i64 y.a2, .int .i64 y.sort, .int .i64 y.fn, .int .i64 y.num] 36 (0, 0)) := by rw [hW1]; exact heap_alloc_new W0 _
    clear hW1 hb1 y0 y1 y2 y3 y4 y5 y6 y7 n0 n1 n2 n3 n4 n5 n6 n7 m0 m1 m2 m17 mlt hki hk0 hgl
    obtain ⟨y0, y1, y2, y3, y4, y5, y6, y7, yz⟩ := node_box hy1
    obtain ⟨n0, n1, n2, n3, n4, n5, n6, n7, zn⟩ := HN.out.cells HK1.out
    clear hy1
    go_wp2_with fail
    go_ret
    exact HN.out.post HM1.out HK1.out rfl
  · have e1 := eq_f h1
    have hz : putM most s n = r := by rw [← hr]; unfold notM; rw [hk, hy, if_neg h1]
    have HPut : Hid (∀ V, MkR V (And1 P w.heap.size) M most s → Calls Tryd.prog 48 #[.pointer (some ⟨M, 0, none⟩), .agg #[.int .i8 n.op, .int .i8 n.len, .int .i64 n.a0, .int .i64 n.a1, .int .i64 n.a2, .int .i64 n.sort, .int .i64 n.fn, .int .i64 n.num]] V (MkPost (And1 P w.heap.size) M most V r)) := fun V hv => put_any _ M most s n r V hv hm hn hs hz
    clear h1 hr hy hk h ha hs hn hz
    go_enter Tryd.func49, Tryd.ntmps49
    go_wp2_with fail
    rw [← hW0]
    clear hW0
    go_region
    refine exit_name ?_
    intro W1 hW1
    have hb1 : Below W0.heap.size W0 W1 := by rw [hW1]; exact ((Below.refl _ W0).alloc (Nat.le_refl _) _).drew
    have HM1 : Hid (MkR W1 (And1 P w.heap.size) M most s) := HN.out.mr.below hb1
    have HK1 : Hid (Kp (And1 P w.heap.size) W0 W1) := Kp.of hb1 HN.out.mr.lts
    have hy1 : W1.heap[W0.heap.size]? = some (.cells #[.int .i8 y.op, .int .i8 y.len, .int .i64 y.a0, .int .i64 y.a1, .int .i64 y.a2, .int .i64 y.sort, .int .i64 y.fn, .int .i64 y.num] 36 (0, 0)) := by rw [hW1]; exact heap_alloc_new W0 _
    clear hW1 hb1 y0 y1 y2 y3 y4 y5 y6 y7 n0 n1 n2 n3 n4 n5 n6 n7 m0 m1 m2 m17 mlt hki hk0 hgl
    obtain ⟨y0, y1, y2, y3, y4, y5, y6, y7, yz⟩ := node_box hy1
    obtain ⟨n0, n1, n2, n3, n4, n5, n6, n7, zn⟩ := HN.out.cells HK1.out
    clear hy1
    go_wp2_with (go_at_call 48; refine (HPut.out _ HM1.out).mono ?_; rintro e w2 ⟨rfl, h1, h2⟩)
    go_ret
    exact HN.out.post h1 (HK1.out.trans h2) rfl
/-- A block of others' grows by what is made. -/
theorem MkR.news {w w' : World} {P : Nat → Prop} {M : Nat} {most : Int} {s : MkS} (h : MkR w P M most s) (hb : Below w.heap.size w w') : MkR w' P M most s ∧ Kp P w w' := ⟨h.below hb, Kp.of hb h.lts⟩
set_option maxRecDepth 100000 in
set_option maxHeartbeats 1000000 in
theorem neg_any (P : Nat → Prop) (M : Nat) (most : Int) (s : MkS) (i : Int) (r : MkS × Int) (w : World) (h : MkR w P M most s) (hm : most ≤ 2000) (hi : PlA s i) (hr : negM most s i = r) :
    Calls Tryd.prog 65 #[.pointer (some ⟨M, 0, none⟩), .int .i64 i] w (MkPost P M most w r) := by
  obtain ⟨W0, hW0⟩ : ∃ W0, W0 = w.alloc (.cells #[.int .i64 i] 3) := ⟨_, rfl⟩
  have hb0 : Below w.heap.size w W0 := by rw [hW0]; exact (Below.refl _ w).alloc (Nat.le_refl _) _
  have hx0 : W0.heap[w.heap.size]? = some (.cells #[.int .i64 i] 3 (0, 0)) := by rw [hW0]; exact heap_alloc_new w _
  have HNd := Lib.hid (node1_any 1 i w.heap.size _ W0 hx0)
  have HNot : Hid (∀ V, MkR V P M most s → Calls Tryd.prog 49 #[.pointer (some ⟨M, 0, none⟩), .agg #[.int .i8 1, .int .i8 1, .int .i64 i, .int .i64 0, .int .i64 0, .int .i64 0, .int .i64 0, .int .i64 0]] V (MkPost P M most V r)) := fun V hv => not_any P M most s (one1 1 i) r V hv hm (ok_one (i8_lit (by decide)) (hi.i64 h.inv.len)) hi (fun _ => st_one rfl hi) hr
  have HM := Lib.hid h
  have HB0 := Lib.hid hb0
  clear hb0 hx0 h hi hr
  go_enter Tryd.func65, Tryd.ntmps65
  go_wp2_with fail
  rw [← hW0]
  clear hW0
  refine HNd.out.mono ?_
  rintro e w1 ⟨rfl, hb1⟩
  have HB1 := Lib.hid (HB0.out.trans (hb1.mono HB0.out.size))
  clear hb1
  go_wp2_with fail
  refine (HNot.out _ (HM.out.below HB1.out)).mono ?_
  rintro e w2 ⟨rfl, h1, h2⟩
  go_wp2_with fail
  go_ret
  exact ⟨rfl, h1, (HM.out.news HB1.out).2.trans h2⟩
end Go.Proofs.YtjibhkgphahbaaaDoor.Tm
namespace Go.Proofs.YtjibhkgphahbaaaDoor.Tm
open Go.RowKit
set_option linter.unusedVariables false
set_option maxRecDepth 100000 in
set_option maxHeartbeats 2000000 in
theorem imp_any (P : Nat → Prop) (M : Nat) (most : Int) (s : MkS) (n : NodeA) (r : MkS × Int) (w : World) (h : MkR w P M most s) (hm : most ≤ 2000) (ha : PlA s n.a0) (hb : PlA s n.a1) (hr : impM most s n = r) :
    Calls Tryd.prog 51 #[.pointer (some ⟨M, 0, none⟩), .agg #[.int .i8 n.op, .int .i8 n.len, .int .i64 n.a0, .int .i64 n.a1, .int .i64 n.a2, .int .i64 n.sort, .int .i64 n.fn, .int .i64 n.num]] w (MkPost P M most w r) := by
  obtain ⟨W0, hW0⟩ : ∃ W0, W0 = w.alloc (.cells #[.int .i8 n.op, .int .i8 n.len, .int .i64 n.a0, .int .i64 n.a1, .int .i64 n.a2, .int .i64 n.sort, .int .i64 n.fn, .int .i64 n.num] 36) := ⟨_, rfl⟩
  have HN : Hid (NdB w W0 P M most s n) := by show NdB _ _ _ _ _ _ _; rw [hW0]; exact ndB h n
  obtain ⟨n0, n1, n2, n3, n4, n5, n6, n7, zn⟩ := HN.out.cells (Kp.refl _ _)
  have HS : Hid (∀ V, Kp (And1 P w.heap.size) W0 V → V.cell? ⟨w.heap.size, 2, none⟩ = some (.int .i64 n.a0) ∧ V.cell? ⟨w.heap.size, 3, none⟩ = some (.int .i64 n.a1)) := fun V hV => by
    obtain ⟨_, _, n2, n3, _⟩ := HN.out.cells hV
    exact ⟨n2, n3⟩
  obtain ⟨r1, hr1⟩ : ∃ r1, negM most s n.a0 = r1 := ⟨_, rfl⟩
  have ho := neg_out (most := most) h.inv hm ha
  rw [hr1] at ho
  have HNeg : Hid (∀ V, MkR V (And1 P w.heap.size) M most s → Calls Tryd.prog 65 #[.pointer (some ⟨M, 0, none⟩), .int .i64 n.a0] V (MkPost (And1 P w.heap.size) M most V r1)) := fun V hv => neg_any _ M most s n.a0 r1 V hv hm ha hr1
  have hz : putM most r1.1 (two2 3 r1.2 n.a1 0) = r := by rw [← hr]; unfold impM; rw [hr1]
  have HPut : Hid (∀ V, MkR V (And1 P w.heap.size) M most r1.1 → Calls Tryd.prog 48 #[.pointer (some ⟨M, 0, none⟩), .agg #[.int .i8 3, .int .i8 2, .int .i64 r1.2, .int .i64 n.a1, .int .i64 0, .int .i64 0, .int .i64 0, .int .i64 0]] V (MkPost (And1 P w.heap.size) M most V r)) := fun V hv =>
    put_any _ M most r1.1 (two2 3 r1.2 n.a1 0) r V hv hm (ok_two (i8_lit (by decide)) (ho.pl.i64 ho.inv.len) (hb.i64 h.inv.len) z64) (fun _ => st_two (.inl ⟨by decide, rfl⟩) ho.pl (hb.up ho.pre)) hz
  have HNd : Hid (∀ (V : World) (B : Nat) (ty : TypeId), V.heap[B]? = some (.cells #[.int .i64 r1.2, .int .i64 n.a1] ty (0, 0)) → Calls Tryd.prog 66 #[.int .i8 3, .slice (some ⟨B, 0, none⟩) 2 2] V fun e w' => e = .returned (.agg #[.int .i8 3, .int .i8 2, .int .i64 r1.2, .int .i64 n.a1, .int .i64 0, .int .i64 0, .int .i64 0, .int .i64 0]) ∧ Below V.heap.size V w') := fun V B ty hx => node2_any 3 r1.2 n.a1 B ty V hx
  clear hr hr1 ho ha hb h hz n0 n1 n2 n3 n4 n5 n6 n7
  go_enter Tryd.func51, Tryd.ntmps51
  go_wp2_with fail
  rw [← hW0]
  clear hW0
  go_region_held3 (fun V => V.cell? ⟨w.heap.size, 2, none⟩ = some (.int .i64 n.a0) ∧ V.cell? ⟨w.heap.size, 3, none⟩ = some (.int .i64 n.a1))
    (first | with_reducible exact HS.out _ (Kp.drew (Kp.refl _ _)) | with_reducible exact HS.out _ HK1.out | with_reducible exact HS.out _ HK2.out | with_reducible exact HS.out _ (HKA.out _) | with_reducible exact HS.out _ HK3.out)
    (first | (go_at_call 65; refine (HNeg.out _ HN.out.mr.drew).mono ?_; rintro e w1 ⟨rfl, hm1, hk1⟩; have HM1 := Lib.hid hm1; have HK1 := Lib.hid (Kp.trans (Kp.drew (Kp.refl _ _)) hk1); have HKA := Lib.hid (fun o => HK1.out.trans (Kp.box o HM1.out.lts)); clear hm1 hk1) | (go_at_call 66; refine (HNd.out _ _ _ (heap_alloc_new w1 _)).mono ?_; rintro e w2 ⟨rfl, hb2⟩; have hb2' := ((Below.refl w1.heap.size w1).alloc (Nat.le_refl _) _).trans (hb2.mono (by simp)); have HM2 := Lib.hid (HM1.out.below hb2'); have HK2 := Lib.hid (HK1.out.trans (HM1.out.news hb2').2); clear hb2 hb2') | (go_at_call 48; refine (HPut.out _ HM2.out).mono ?_; rintro e w3 ⟨rfl, hm3, hk3⟩; have HM3 := Lib.hid hm3; have HK3 := Lib.hid (HK2.out.trans hk3); clear hm3 hk3))
  all_goals
    go_wp2_with fail
    go_ret
    exact HN.out.post HM3.out HK3.out rfl
end Go.Proofs.YtjibhkgphahbaaaDoor.Tm
