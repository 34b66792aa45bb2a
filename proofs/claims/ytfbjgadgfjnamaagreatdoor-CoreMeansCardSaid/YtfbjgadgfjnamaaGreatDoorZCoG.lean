/- Core: differences and sums. -/
import Derived.Test.YtfbjgadgfjnamaaGreatDoorZCoD
import Derived.Deep.RegionHeld3
namespace Go.Proofs.YtfbjgadgfjnamaaGreatDoor.Tm
open Go.RowKit
set_option linter.unusedVariables false
set_option maxRecDepth 100000 in
set_option maxHeartbeats 1000000 in
theorem not_any (P : Nat → Prop) (M : Nat) (most : Int) (s : MkS) (n : NodeA) (r : MkS × Int) (w : World) (h : MkR w P M most s) (hm : most ≤ 2000) (hn : NodeOk n) (ha : PlA s n.a0) (hs : s.e = 0 → standsB n s.l.length = true) (hr : notM most s n = r) :
    Calls Tryz.prog 99 #[.pointer (some ⟨M, 0, none⟩), .agg #[.int .i8 n.op, .int .i8 n.len, .int .i64 n.a0, .int .i64 n.a1, .int .i64 n.a2, .int .i64 n.sort, .int .i64 n.fn, .int .i64 n.num]] w (MkPost P M most w r) := by
  obtain ⟨k, hk, hkl⟩ := ha.nat
  obtain ⟨W0, hW0⟩ : ∃ W0, W0 = w.alloc (.cells #[.int .i8 n.op, .int .i8 n.len, .int .i64 n.a0, .int .i64 n.a1, .int .i64 n.a2, .int .i64 n.sort, .int .i64 n.fn, .int .i64 n.num] 47) := ⟨_, rfl⟩
  have HN : Hid (NdB w W0 P M most s n) := by show NdB _ _ _ _ _ _ _; rw [hW0]; exact ndB h n
  obtain ⟨a, c, b, hX⟩ := HN.out.mr
  have hlen := h.inv.len
  have hg := nodA_get hkl
  obtain ⟨y, hy⟩ : ∃ y, nodA s.l (k : Int) = y := ⟨_, rfl⟩
  rw [hy] at hg
  obtain ⟨m0, m1, m2, m17, mlt, mfz⟩ := hX.cells
  obtain ⟨g, o, rfl, hgl, y0, y1, y2, y3, y4, y5, y6, y7⟩ := hX.tab.node hg
  obtain ⟨n0, n1, n2, n3, n4, n5, n6, n7, zn⟩ := HN.out.cells (Kp.refl _ _)
  rw [hk] at n2
  have hki : (k : Int) < (s.l.length : Int) := by omega
  have hk0 : (0 : Int) ≤ (k : Int) := by omega
  have HNo := Lib.hid hn
  have HI := Lib.hid (And.intro ha hs)
  clear hX mfz hg
  by_cases h1 : y.op = 1
  · have e1 := eq_t h1
    have hz : r = (s, y.a0) := by rw [← hr]; unfold notM; rw [hk, hy, if_pos h1]
    subst hz
    clear h1 hr hy hk h ha hs hn
    go_enter Tryz.func99, Tryz.ntmps99
    go_wp2_with fail
    rw [← hW0]
    clear hW0
    go_region
    refine exit_name ?_
    intro W1 hW1
    have hb1 : Below W0.heap.size W0 W1 := by rw [hW1]; exact ((Below.refl _ W0).alloc (Nat.le_refl _) _).drew
    have HM1 : Hid (MkR W1 (And1 P w.heap.size) M most s) := HN.out.mr.below hb1
    have HK1 : Hid (Kp (And1 P w.heap.size) W0 W1) := Kp.of hb1 HN.out.mr.lts
    have hy1 : W1.heap[W0.heap.size]? = some (.cells #[.int .i8 y.op, .int .i8 y.len, .int .i64 y.a0, .int .i64 y.a1, .int .i64 y.a2, .int .i64 y.sort, .int .i64 y.fn, .int .i64 y.num] 47 (0, 0)) := by rw [hW1]; exact heap_alloc_new W0 _
    clear hW1 hb1 y0 y1 y2 y3 y4 y5 y6 y7 n0 n1 n2 n3 n4 n5 n6 n7 m0 m1 m2 m17 mlt hki hk0 hgl
    obtain ⟨y0, y1, y2, y3, y4, y5, y6, y7, yz⟩ := node_box hy1
    obtain ⟨n0, n1, n2, n3, n4, n5, n6, n7, zn⟩ := HN.out.cells HK1.out
    clear hy1
    go_wp2_with fail
    go_ret
    exact HN.out.post HM1.out HK1.out rfl
  · have e1 := eq_f h1
    have hz : putM most s n = r := by rw [← hr]; unfold notM; rw [hk, hy, if_neg h1]
    have HPut : Hid (∀ V, MkR V (And1 P w.heap.size) M most s → Calls Tryz.prog 98 #[.pointer (some ⟨M, 0, none⟩), .agg #[.int .i8 n.op, .int .i8 n.len, .int .i64 n.a0, .int .i64 n.a1, .int .i64 n.a2, .int .i64 n.sort, .int .i64 n.fn, .int .i64 n.num]] V (MkPost (And1 P w.heap.size) M most V r)) := fun V hv => put_any _ M most s n r V hv hm hn hs hz
    clear h1 hr hy hk h ha hs hn hz
    go_enter Tryz.func99, Tryz.ntmps99
    go_wp2_with fail
    rw [← hW0]
    clear hW0
    go_region
    refine exit_name ?_
    intro W1 hW1
    have hb1 : Below W0.heap.size W0 W1 := by rw [hW1]; exact ((Below.refl _ W0).alloc (Nat.le_refl _) _).drew
    have HM1 : Hid (MkR W1 (And1 P w.heap.size) M most s) := HN.out.mr.below hb1
    have HK1 : Hid (Kp (And1 P w.heap.size) W0 W1) := Kp.of hb1 HN.out.mr.lts
    have hy1 : W1.heap[W0.heap.size]? = some (.cells #[.int .i8 y.op, .int .i8 y.len, .int .i64 y.a0, .int .i64 y.a1, .int .i64 y.a2, .int .i64 y.sort, .int .i64 y.fn, .int .i64 y.num] 47 (0, 0)) := by rw [hW1]; exact heap_alloc_new W0 _
    clear hW1 hb1 y0 y1 y2 y3 y4 y5 y6 y7 n0 n1 n2 n3 n4 n5 n6 n7 m0 m1 m2 m17 mlt hki hk0 hgl
    obtain ⟨y0, y1, y2, y3, y4, y5, y6, y7, yz⟩ := node_box hy1
    obtain ⟨n0, n1, n2, n3, n4, n5, n6, n7, zn⟩ := HN.out.cells HK1.out
    clear hy1
    go_wp2_with (go_at_call 98; refine (HPut.out _ HM1.out).mono ?_; rintro e w2 ⟨rfl, h1, h2⟩)
    go_ret
    exact HN.out.post h1 (HK1.out.trans h2) rfl
/-- A block of others' grows by what is made. -/
theorem MkR.news {w w' : World} {P : Nat → Prop} {M : Nat} {most : Int} {s : MkS} (h : MkR w P M most s) (hb : Below w.heap.size w w') : MkR w' P M most s ∧ Kp P w w' := ⟨h.below hb, Kp.of hb h.lts⟩
set_option maxRecDepth 100000 in
set_option maxHeartbeats 1000000 in
theorem neg_any (P : Nat → Prop) (M : Nat) (most : Int) (s : MkS) (i : Int) (r : MkS × Int) (w : World) (h : MkR w P M most s) (hm : most ≤ 2000) (hi : PlA s i) (hr : negM most s i = r) :
    Calls Tryz.prog 143 #[.pointer (some ⟨M, 0, none⟩), .int .i64 i] w (MkPost P M most w r) := by
  obtain ⟨W0, hW0⟩ : ∃ W0, W0 = w.alloc (.cells #[.int .i64 i] 3) := ⟨_, rfl⟩
  have hb0 : Below w.heap.size w W0 := by rw [hW0]; exact (Below.refl _ w).alloc (Nat.le_refl _) _
  have hx0 : W0.heap[w.heap.size]? = some (.cells #[.int .i64 i] 3 (0, 0)) := by rw [hW0]; exact heap_alloc_new w _
  have HNd := Lib.hid (node1_any 1 i w.heap.size _ W0 hx0)
  have HNot : Hid (∀ V, MkR V P M most s → Calls Tryz.prog 99 #[.pointer (some ⟨M, 0, none⟩), .agg #[.int .i8 1, .int .i8 1, .int .i64 i, .int .i64 0, .int .i64 0, .int .i64 0, .int .i64 0, .int .i64 0]] V (MkPost P M most V r)) := fun V hv => not_any P M most s (one1 1 i) r V hv hm (ok_one (i8_lit (by decide)) (hi.i64 h.inv.len)) hi (fun _ => st_one rfl hi) hr
  have HM := Lib.hid h
  have HB0 := Lib.hid hb0
  clear hb0 hx0 h hi hr
  go_enter Tryz.func143, Tryz.ntmps143
  go_wp2_with fail
  rw [← hW0]
  clear hW0
  refine HNd.out.mono ?_
  rintro e w1 ⟨rfl, hb1⟩
  have HB1 := Lib.hid (HB0.out.trans (hb1.mono HB0.out.size))
  clear hb1
  go_wp2_with fail
  refine (HNot.out _ (HM.out.below HB1.out)).mono ?_
  rintro e w2 ⟨rfl, h1, h2⟩
  go_wp2_with fail
  go_ret
  exact ⟨rfl, h1, (HM.out.news HB1.out).2.trans h2⟩
end Go.Proofs.YtfbjgadgfjnamaaGreatDoor.Tm
namespace Go.Proofs.YtfbjgadgfjnamaaGreatDoor.Tm
open Go.RowKit
set_option linter.unusedVariables false
set_option maxRecDepth 100000 in
set_option maxHeartbeats 2000000 in
theorem imp_any (P : Nat → Prop) (M : Nat) (most : Int) (s : MkS) (n : NodeA) (r : MkS × Int) (w : World) (h : MkR w P M most s) (hm : most ≤ 2000) (ha : PlA s n.a0) (hb : PlA s n.a1) (hr : impM most s n = r) :
    Calls Tryz.prog 101 #[.pointer (some ⟨M, 0, none⟩), .agg #[.int .i8 n.op, .int .i8 n.len, .int .i64 n.a0, .int .i64 n.a1, .int .i64 n.a2, .int .i64 n.sort, .int .i64 n.fn, .int .i64 n.num]] w (MkPost P M most w r) := by
  obtain ⟨W0, hW0⟩ : ∃ W0, W0 = w.alloc (.cells #[.int .i8 n.op, .int .i8 n.len, .int .i64 n.a0, .int .i64 n.a1, .int .i64 n.a2, .int .i64 n.sort, .int .i64 n.fn, .int .i64 n.num] 47) := ⟨_, rfl⟩
  have HN : Hid (NdB w W0 P M most s n) := by show NdB _ _ _ _ _ _ _; rw [hW0]; exact ndB h n
  obtain ⟨n0, n1, n2, n3, n4, n5, n6, n7, zn⟩ := HN.out.cells (Kp.refl _ _)
  have HS : Hid (∀ V, Kp (And1 P w.heap.size) W0 V → V.cell? ⟨w.heap.size, 2, none⟩ = some (.int .i64 n.a0) ∧ V.cell? ⟨w.heap.size, 3, none⟩ = some (.int .i64 n.a1)) := fun V hV => by
    obtain ⟨_, _, n2, n3, _⟩ := HN.out.cells hV
    exact ⟨n2, n3⟩
  obtain ⟨r1, hr1⟩ : ∃ r1, negM most s n.a0 = r1 := ⟨_, rfl⟩
  have ho := neg_out (most := most) h.inv hm ha
  rw [hr1] at ho
  have HNeg : Hid (∀ V, MkR V (And1 P w.heap.size) M most s → Calls Tryz.prog 143 #[.pointer (some ⟨M, 0, none⟩), .int .i64 n.a0] V (MkPost (And1 P w.heap.size) M most V r1)) := fun V hv => neg_any _ M most s n.a0 r1 V hv hm ha hr1
  have hz : putM most r1.1 (two2 3 r1.2 n.a1 0) = r := by rw [← hr]; unfold impM; rw [hr1]
  have HPut : Hid (∀ V, MkR V (And1 P w.heap.size) M most r1.1 → Calls Tryz.prog 98 #[.pointer (some ⟨M, 0, none⟩), .agg #[.int .i8 3, .int .i8 2, .int .i64 r1.2, .int .i64 n.a1, .int .i64 0, .int .i64 0, .int .i64 0, .int .i64 0]] V (MkPost (And1 P w.heap.size) M most V r)) := fun V hv =>
    put_any _ M most r1.1 (two2 3 r1.2 n.a1 0) r V hv hm (ok_two (i8_lit (by decide)) (ho.pl.i64 ho.inv.len) (hb.i64 h.inv.len) z64) (fun _ => st_two (.inl ⟨by decide, rfl⟩) ho.pl (hb.up ho.pre)) hz
  have HNd : Hid (∀ (V : World) (B : Nat) (ty : TypeId), V.heap[B]? = some (.cells #[.int .i64 r1.2, .int .i64 n.a1] ty (0, 0)) → Calls Tryz.prog 144 #[.int .i8 3, .slice (some ⟨B, 0, none⟩) 2 2] V fun e w' => e = .returned (.agg #[.int .i8 3, .int .i8 2, .int .i64 r1.2, .int .i64 n.a1, .int .i64 0, .int .i64 0, .int .i64 0, .int .i64 0]) ∧ Below V.heap.size V w') := fun V B ty hx => node2_any 3 r1.2 n.a1 B ty V hx
  clear hr hr1 ho ha hb h hz n0 n1 n2 n3 n4 n5 n6 n7
  go_enter Tryz.func101, Tryz.ntmps101
  go_wp2_with fail
  rw [← hW0]
  clear hW0
  go_region_held3 (fun V => V.cell? ⟨w.heap.size, 2, none⟩ = some (.int .i64 n.a0) ∧ V.cell? ⟨w.heap.size, 3, none⟩ = some (.int .i64 n.a1))
    (first | with_reducible exact HS.out _ (Kp.drew (Kp.refl _ _)) | with_reducible exact HS.out _ HK1.out | with_reducible exact HS.out _ HK2.out | with_reducible exact HS.out _ (HKA.out _) | with_reducible exact HS.out _ HK3.out)
    (first | (go_at_call 143; refine (HNeg.out _ HN.out.mr.drew).mono ?_; rintro e w1 ⟨rfl, hm1, hk1⟩; have HM1 := Lib.hid hm1; have HK1 := Lib.hid (Kp.trans (Kp.drew (Kp.refl _ _)) hk1); have HKA := Lib.hid (fun o => HK1.out.trans (Kp.box o HM1.out.lts)); clear hm1 hk1) | (go_at_call 144; refine (HNd.out _ _ _ (heap_alloc_new w1 _)).mono ?_; rintro e w2 ⟨rfl, hb2⟩; have hb2' := ((Below.refl w1.heap.size w1).alloc (Nat.le_refl _) _).trans (hb2.mono (by simp)); have HM2 := Lib.hid (HM1.out.below hb2'); have HK2 := Lib.hid (HK1.out.trans (HM1.out.news hb2').2); clear hb2 hb2') | (go_at_call 98; refine (HPut.out _ HM2.out).mono ?_; rintro e w3 ⟨rfl, hm3, hk3⟩; have HM3 := Lib.hid hm3; have HK3 := Lib.hid (HK2.out.trans hk3); clear hm3 hk3))
  all_goals
    go_wp2_with fail
    go_ret
    exact HN.out.post HM3.out HK3.out rfl
end Go.Proofs.YtfbjgadgfjnamaaGreatDoor.Tm
namespace Go.Proofs.YtfbjgadgfjnamaaGreatDoor.Tm
open Go.RowKit
set_option linter.unusedVariables false
/-- A maker in a world that came later. -/
structure At1 (w V : World) (P : Nat → Prop) (M : Nat) (most : Int) (s : MkS) : Prop where
  mr : MkR V P M most s
  kp : Kp P w V
theorem At1.below {w V V' : World} {P : Nat → Prop} {M : Nat} {most : Int} {s : MkS} (h : At1 w V P M most s) (hb : Below V.heap.size V V') : At1 w V' P M most s := ⟨h.mr.below hb, h.kp.trans (h.mr.news hb).2⟩
theorem At1.step {w V V' : World} {P : Nat → Prop} {M : Nat} {most : Int} {s s' : MkS} (h : At1 w V P M most s) (hm : MkR V' P M most s') (hk : Kp P V V') : At1 w V' P M most s' := ⟨hm, h.kp.trans hk⟩
set_option maxRecDepth 100000 in
set_option maxHeartbeats 4000000 in
theorem le_any (P : Nat → Prop) (M : Nat) (most : Int) (s : MkS) (i j d : Int) (r : MkS × Int) (w : World) (h : MkR w P M most s) (hm : most ≤ 2000) (hi : PlA s i) (hj : PlA s j) (hd : I64 d) (hr : leM most s i j d = r) :
    Calls Tryz.prog 145 #[.pointer (some ⟨M, 0, none⟩), .int .i64 i, .int .i64 j, .int .i64 d] w (MkPost P M most w r) := by
  obtain ⟨k, rfl, hkl⟩ := hi.nat
  obtain ⟨q, rfl, hql⟩ := hj.nat
  have hinv := h.inv
  have hlen := hinv.len
  obtain ⟨p1, hp1⟩ : ∃ p, splitA s.l (k : Int) = p := ⟨_, rfl⟩
  obtain ⟨p2, hp2⟩ : ∃ p, splitA s.l (q : Int) = p := ⟨_, rfl⟩
  have hx := split_pl hinv hi
  have hy := split_pl hinv hj
  have hf1 := may_i64 (split_may hinv hi)
  have hf2 := may_i64 (split_may hinv hj)
  rw [hp1] at hx hf1
  rw [hp2] at hy hf2
  obtain ⟨s1, hs1⟩ : ∃ r, numM s (subV d p1.2) (subE d p1.2) = r := ⟨_, rfl⟩
  obtain ⟨s2, hs2⟩ : ∃ r, numM s1.1 (addV s1.2 p2.2) (addE s1.2 p2.2) = r := ⟨_, rfl⟩
  have hd2 : diffM s (k : Int) (q : Int) d = s2 := by unfold diffM; rw [hp1, hp2, hs1]; exact hs2
  have h64 : I64 s1.2 := by rw [← hs1]; exact num_i64 (subV_64 _ _)
  have hinv2 : MkI s2.1 := by rw [← hd2]; exact diff_inv hinv _ _ _
  have hpre2 : Pre s s2.1 := by rw [← hd2]; exact diff_pre _ _ _ _
  have h264 : I64 s2.2 := by rw [← hd2]; exact diff_i64 _ _ _ _
  have hmay2 : s2.1.e = 0 → mayB s2.2 = true := fun he => by rw [← hd2] at he ⊢; exact (diff_z he).2.1
  have hr2 : (if ¬ p1.1 = p2.1 then putM most s2.1 (two2 12 p1.1 p2.1 s2.2) else if 0 ≤ s2.2 then (s2.1, 0) else negM most s2.1 0) = r := by rw [← hr]; unfold leM; rw [hd2, hp1, hp2]
  have HSp1 : Hid (∀ V a c, TabR V s.l a c → Calls Tryz.prog 129 #[.slice a s.l.length c, .int .i64 k] V fun e w' => e = .returned (.tuple #[.int .i64 p1.1, .int .i64 p1.2]) ∧ Below V.heap.size V w') := fun V a c ht => split_any s.l a c k p1 V ht hkl (by omega) hp1
  have HSp2 : Hid (∀ V a c, TabR V s.l a c → Calls Tryz.prog 129 #[.slice a s.l.length c, .int .i64 q] V fun e w' => e = .returned (.tuple #[.int .i64 p2.1, .int .i64 p2.2]) ∧ Below V.heap.size V w') := fun V a c ht => split_any s.l a c q p2 V ht hql (by omega) hp2
  have HSub : Hid (∀ V, Calls Tryz.prog 164 #[.int .i64 d, .int .i64 p1.2] V fun e w' => e = .returned (.tuple #[.int .i64 (subV d p1.2), .int .i64 (subE d p1.2)]) ∧ Below V.heap.size V w') := fun V => Sub_any d p1.2 V hd hf1
  have HAdd : Hid (∀ V, Calls Tryz.prog 147 #[.int .i64 s1.2, .int .i64 p2.2] V fun e w' => e = .returned (.tuple #[.int .i64 (addV s1.2 p2.2), .int .i64 (addE s1.2 p2.2)]) ∧ Below V.heap.size V w') := fun V => Add_any s1.2 p2.2 V h64 hf2
  have HN1 : Hid (∀ V, MkR V P M most s → Calls Tryz.prog 146 #[.pointer (some ⟨M, 0, none⟩), .int .i64 (subV d p1.2), .int .i64 (subE d p1.2)] V (MkPost P M most V s1)) := fun V hv => number_any P M most s _ _ s1 V hv (subE_c _ _) hs1
  have HN2 : Hid (∀ V, MkR V P M most s1.1 → Calls Tryz.prog 146 #[.pointer (some ⟨M, 0, none⟩), .int .i64 (addV s1.2 p2.2), .int .i64 (addE s1.2 p2.2)] V (MkPost P M most V s2)) := fun V hv => number_any P M most s1.1 _ _ s2 V hv (addE_c _ _) hs2
  have HA0 : Hid (At1 w w P M most s) := ⟨h, Kp.refl _ _⟩
  obtain ⟨a, c, b, hX⟩ := h
  obtain ⟨m0, m1, m2, m17, mlt, mfz⟩ := hX.cells
  have HTb := Lib.hid hX.tab
  have HX := Lib.hid hX
  have HIn := Lib.hid (And.intro hx (And.intro hy (And.intro hinv2 (And.intro hpre2 (And.intro h264 (And.intro hmay2 hr2))))))
  clear hX mfz hp1 hp2 hs1 hs2 hd2 h64 hf1 hf2 hx hy hinv hr hi hj hkl hql hlen hinv2 hpre2 h264 hmay2 hr2
  go_enter Tryz.func145, Tryz.ntmps145
  go_wp2_with fail
  refine (HSp1.out _ _ _ HTb.out).mono ?_
  rintro e w1 ⟨rfl, hb1⟩
  have HA1 : Hid (At1 w w1 P M most s) := HA0.out.below hb1
  have HX1 : Hid (MkX w1 P M most s a c b) := HX.out.move (hb1.block _ HX.out.lt) (hb1.block _ HX.out.map.lt) (fun g hg => hb1.block _ (own_lt HX.out.own hg).2) (fun k hk => ⟨HA1.out.mr.lt hk, (HX.out.apart k hk).2⟩)
  clear hb1 m0 m1 m2 m17 mlt
  obtain ⟨m0, m1, m2, m17, mlt, mfz⟩ := HX1.out.cells
  clear mfz
  go_wp2_with fail
  refine (HSp2.out _ _ _ HX1.out.tab).mono ?_
  rintro e w2 ⟨rfl, hb2⟩
  have HA2 : Hid (At1 w w2 P M most s) := HA1.out.below hb2
  clear hb2 m0 m1 m2 m17 mlt
  go_wp2_with fail
  refine (HSub.out _).mono ?_
  rintro e w3 ⟨rfl, hb3⟩
  have HA3 : Hid (At1 w w3 P M most s) := HA2.out.below hb3
  clear hb3
  go_wp2_with fail
  refine (HN1.out _ HA3.out.mr).mono ?_
  rintro e w4 ⟨rfl, hm4, hk4⟩
  have HA4 : Hid (At1 w w4 P M most s1.1) := HA3.out.step hm4 hk4
  clear hm4 hk4
  go_wp2_with fail
  refine (HAdd.out _).mono ?_
  rintro e w5 ⟨rfl, hb5⟩
  have HA5 : Hid (At1 w w5 P M most s1.1) := HA4.out.below hb5
  clear hb5
  go_wp2_with fail
  refine (HN2.out _ HA5.out.mr).mono ?_
  rintro e w6 ⟨rfl, hm6, hk6⟩
  have HA6 : Hid (At1 w w6 P M most s2.1) := HA5.out.step hm6 hk6
  clear hm6 hk6 HSp1 HSp2 HSub HAdd HN1 HN2
  by_cases hxy : p1.1 = p2.1
  · have e1 := ne_f hxy
    by_cases hz : 0 ≤ s2.2
    · have e2 : decide (0 ≤ s2.2) = true := decide_eq_true hz
      have hr3 : r = (s2.1, 0) := by rw [← HIn.out.2.2.2.2.2.2, if_neg (fun h => h hxy), if_pos hz]
      subst hr3
      clear hxy hz
      go_wp2_with fail
      go_ret
      exact ⟨rfl, HA6.out.mr, HA6.out.kp⟩
    · have e2 : decide (0 ≤ s2.2) = false := decide_eq_false hz
      have HNg : Hid (Calls Tryz.prog 143 #[.pointer (some ⟨M, 0, none⟩), .int .i64 0] w6 (MkPost P M most w6 r)) := neg_any P M most s2.1 0 r w6 HA6.out.mr hm (PlA.zero HIn.out.2.2.1) (by rw [← HIn.out.2.2.2.2.2.2, if_neg (fun h => h hxy), if_neg hz])
      clear hxy hz
      go_wp2_with fail
      refine HNg.out.mono ?_
      rintro e w7 ⟨rfl, hm7, hk7⟩
      go_wp2_with fail
      go_ret
      exact ⟨rfl, hm7, HA6.out.kp.trans hk7⟩
  have e1 := ne_t hxy
  obtain ⟨W7, hW7⟩ : ∃ W7, W7 = w6.alloc (.cells #[.int .i64 p1.1, .int .i64 p2.1] 3) := ⟨_, rfl⟩
  have hb7 : Below w6.heap.size w6 W7 := by rw [hW7]; exact (Below.refl _ w6).alloc (Nat.le_refl _) _
  have HA7 : Hid (At1 w W7 P M most s2.1) := HA6.out.below hb7
  have HNd : Hid (Calls Tryz.prog 144 #[.int .i8 12, .slice (some ⟨w6.heap.size, 0, none⟩) 2 2] W7 fun e w' => e = .returned (.agg #[.int .i8 12, .int .i8 2, .int .i64 p1.1, .int .i64 p2.1, .int .i64 0, .int .i64 0, .int .i64 0, .int .i64 0]) ∧ Below W7.heap.size W7 w') := node2_any 12 p1.1 p2.1 w6.heap.size _ W7 (by rw [hW7]; exact heap_alloc_new w6 _)
  have HPut : Hid (∀ V P', MkR V P' M most s2.1 → Calls Tryz.prog 98 #[.pointer (some ⟨M, 0, none⟩), .agg #[.int .i8 12, .int .i8 2, .int .i64 p1.1, .int .i64 p2.1, .int .i64 0, .int .i64 0, .int .i64 0, .int .i64 s2.2]] V (MkPost P' M most V r)) := fun V P' hv => by
    obtain ⟨px, py, hi2, hpre, h64, hmay, hre⟩ := HIn.out
    rw [if_pos hxy] at hre
    exact put_any P' M most s2.1 (two2 12 p1.1 p2.1 s2.2) r V hv hm (ok_two (i8_lit (by decide)) ((px.up hpre).i64 hi2.len) ((py.up hpre).i64 hi2.len) h64) (fun he => st_two (.inr ⟨rfl, hmay he⟩) (px.up hpre) (py.up hpre)) hre
  clear hb7 hxy
  go_wp2_with fail
  rw [← hW7]
  clear hW7
  refine HNd.out.mono ?_
  rintro e w8 ⟨rfl, hb8⟩
  have HA8 : Hid (At1 w w8 P M most s2.1) := HA7.out.below hb8
  clear hb8
  go_wp2_with fail
  refine (HPut.out _ P (HA8.out.below ((Below.refl _ w8).alloc (Nat.le_refl _) _)).mr).mono ?_
  rintro e w9 ⟨rfl, hm9, hk9⟩
  go_wp2_with fail
  go_ret
  exact ⟨rfl, hm9, (HA8.out.below ((Below.refl _ w8).alloc (Nat.le_refl _) _)).kp.trans hk9⟩
set_option maxRecDepth 100000 in
theorem le3_any (P : Nat → Prop) (M : Nat) (most : Int) (s : MkS) (n : NodeA) (r : MkS × Int) (w : World) (h : MkR w P M most s) (hm : most ≤ 2000) (hn : NodeOk n) (ha : PlA s n.a0) (hb : PlA s n.a1) (hr : leM most s n.a0 n.a1 0 = r) :
    Calls Tryz.prog 104 #[.pointer (some ⟨M, 0, none⟩), .agg #[.int .i8 n.op, .int .i8 n.len, .int .i64 n.a0, .int .i64 n.a1, .int .i64 n.a2, .int .i64 n.sort, .int .i64 n.fn, .int .i64 n.num]] w (MkPost P M most w r) := by
  obtain ⟨W0, hW0⟩ : ∃ W0, W0 = w.alloc (.cells #[.int .i8 n.op, .int .i8 n.len, .int .i64 n.a0, .int .i64 n.a1, .int .i64 n.a2, .int .i64 n.sort, .int .i64 n.fn, .int .i64 n.num] 47) := ⟨_, rfl⟩
  have HN : Hid (NdB w W0 P M most s n) := by show NdB _ _ _ _ _ _ _; rw [hW0]; exact ndB h n
  obtain ⟨n0, n1, n2, n3, n4, n5, n6, n7, zn⟩ := HN.out.cells (Kp.refl _ _)
  have HC : Hid (Calls Tryz.prog 145 #[.pointer (some ⟨M, 0, none⟩), .int .i64 n.a0, .int .i64 n.a1, .int .i64 0] W0 (MkPost (And1 P w.heap.size) M most W0 r)) := le_any _ M most s n.a0 n.a1 0 r W0 HN.out.mr hm ha hb (z64) hr
  clear h ha hb hr hn
  go_enter Tryz.func104, Tryz.ntmps104
  go_wp2_with fail
  rw [← hW0]
  clear hW0
  refine HC.out.mono ?_
  rintro e w1 ⟨rfl, h1, h2⟩
  go_wp2_with fail
  go_ret
  exact HN.out.post h1 h2 rfl
set_option maxRecDepth 100000 in
theorem lt_any (P : Nat → Prop) (M : Nat) (most : Int) (s : MkS) (n : NodeA) (r : MkS × Int) (w : World) (h : MkR w P M most s) (hm : most ≤ 2000) (hn : NodeOk n) (ha : PlA s n.a0) (hb : PlA s n.a1) (hr : leM most s n.a0 n.a1 (-1) = r) :
    Calls Tryz.prog 105 #[.pointer (some ⟨M, 0, none⟩), .agg #[.int .i8 n.op, .int .i8 n.len, .int .i64 n.a0, .int .i64 n.a1, .int .i64 n.a2, .int .i64 n.sort, .int .i64 n.fn, .int .i64 n.num]] w (MkPost P M most w r) := by
  obtain ⟨W0, hW0⟩ : ∃ W0, W0 = w.alloc (.cells #[.int .i8 n.op, .int .i8 n.len, .int .i64 n.a0, .int .i64 n.a1, .int .i64 n.a2, .int .i64 n.sort, .int .i64 n.fn, .int .i64 n.num] 47) := ⟨_, rfl⟩
  have HN : Hid (NdB w W0 P M most s n) := by show NdB _ _ _ _ _ _ _; rw [hW0]; exact ndB h n
  obtain ⟨n0, n1, n2, n3, n4, n5, n6, n7, zn⟩ := HN.out.cells (Kp.refl _ _)
  have HC : Hid (Calls Tryz.prog 145 #[.pointer (some ⟨M, 0, none⟩), .int .i64 n.a0, .int .i64 n.a1, .int .i64 (-1)] W0 (MkPost (And1 P w.heap.size) M most W0 r)) := le_any _ M most s n.a0 n.a1 (-1) r W0 HN.out.mr hm ha hb (l64 (by decide)) hr
  clear h ha hb hr hn
  go_enter Tryz.func105, Tryz.ntmps105
  go_wp2_with fail
  rw [← hW0]
  clear hW0
  refine HC.out.mono ?_
  rintro e w1 ⟨rfl, h1, h2⟩
  go_wp2_with fail
  go_ret
  exact HN.out.post h1 h2 rfl
set_option maxRecDepth 100000 in
theorem diff_any (P : Nat → Prop) (M : Nat) (most : Int) (s : MkS) (n : NodeA) (r : MkS × Int) (w : World) (h : MkR w P M most s) (hm : most ≤ 2000) (hn : NodeOk n) (ha : PlA s n.a0) (hb : PlA s n.a1) (hr : leM most s n.a0 n.a1 n.num = r) :
    Calls Tryz.prog 107 #[.pointer (some ⟨M, 0, none⟩), .agg #[.int .i8 n.op, .int .i8 n.len, .int .i64 n.a0, .int .i64 n.a1, .int .i64 n.a2, .int .i64 n.sort, .int .i64 n.fn, .int .i64 n.num]] w (MkPost P M most w r) := by
  obtain ⟨W0, hW0⟩ : ∃ W0, W0 = w.alloc (.cells #[.int .i8 n.op, .int .i8 n.len, .int .i64 n.a0, .int .i64 n.a1, .int .i64 n.a2, .int .i64 n.sort, .int .i64 n.fn, .int .i64 n.num] 47) := ⟨_, rfl⟩
  have HN : Hid (NdB w W0 P M most s n) := by show NdB _ _ _ _ _ _ _; rw [hW0]; exact ndB h n
  obtain ⟨n0, n1, n2, n3, n4, n5, n6, n7, zn⟩ := HN.out.cells (Kp.refl _ _)
  have HC : Hid (Calls Tryz.prog 145 #[.pointer (some ⟨M, 0, none⟩), .int .i64 n.a0, .int .i64 n.a1, .int .i64 n.num] W0 (MkPost (And1 P w.heap.size) M most W0 r)) := le_any _ M most s n.a0 n.a1 n.num r W0 HN.out.mr hm ha hb (hn.num) hr
  clear h ha hb hr hn
  go_enter Tryz.func107, Tryz.ntmps107
  go_wp2_with fail
  rw [← hW0]
  clear hW0
  refine HC.out.mono ?_
  rintro e w1 ⟨rfl, h1, h2⟩
  go_wp2_with fail
  go_ret
  exact HN.out.post h1 h2 rfl
end Go.Proofs.YtfbjgadgfjnamaaGreatDoor.Tm
