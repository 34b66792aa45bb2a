/- Core: differences and sums. -/
import Derived.Test.YtjibhkgphahbaaaDoorCoF
namespace Go.Proofs.YtjibhkgphahbaaaDoor.Tm
open Go.RowKit
set_option linter.unusedVariables false
/-- A maker in a world that came later. -/
structure At1 (w V : World) (P : Nat → Prop) (M : Nat) (most : Int) (s : MkS) : Prop where
  mr : MkR V P M most s
  kp : Kp P w V
theorem At1.below {w V V' : World} {P : Nat → Prop} {M : Nat} {most : Int} {s : MkS} (h : At1 w V P M most s) (hb : Below V.heap.size V V') : At1 w V' P M most s := ⟨h.mr.below hb, h.kp.trans (h.mr.news hb).2⟩
theorem At1.step {w V V' : World} {P : Nat → Prop} {M : Nat} {most : Int} {s s' : MkS} (h : At1 w V P M most s) (hm : MkR V' P M most s') (hk : Kp P V V') : At1 w V' P M most s' := ⟨hm, h.kp.trans hk⟩
theorem two_num {op a b n : Int} : { two2 op a b 0 with num := n } = two2 op a b n := rfl
set_option maxRecDepth 100000 in
set_option maxHeartbeats 4000000 in
theorem le_any (P : Nat → Prop) (M : Nat) (most : Int) (s : MkS) (i j d : Int) (r : MkS × Int) (w : World) (h : MkR w P M most s) (hm : most ≤ 2000) (hi : PlA s i) (hj : PlA s j) (hd : I64 d) (hr : leM most s i j d = r) :
    Calls Tryd.prog 67 #[.pointer (some ⟨M, 0, none⟩), .int .i64 i, .int .i64 j, .int .i64 d] w (MkPost P M most w r) := by
  obtain ⟨k, rfl, hkl⟩ := hi.nat
  obtain ⟨q, rfl, hql⟩ := hj.nat
  have hinv := h.inv
  have hlen := hinv.len
  obtain ⟨p1, hp1⟩ : ∃ p, splitA s.l (k : Int) = p := ⟨_, rfl⟩
  obtain ⟨p2, hp2⟩ : ∃ p, splitA s.l (q : Int) = p := ⟨_, rfl⟩
  have hx := split_pl hinv hi
  have hy := split_pl hinv hj
  have hf1 := may_i64 (split_may hinv hi)
  have hf2 := may_i64 (split_may hinv hj)
  rw [hp1] at hx hf1
  rw [hp2] at hy hf2
  obtain ⟨s1, hs1⟩ : ∃ r, numM s (subV d p1.2) (subE d p1.2) = r := ⟨_, rfl⟩
  obtain ⟨s2, hs2⟩ : ∃ r, numM s1.1 (addV s1.2 p2.2) (addE s1.2 p2.2) = r := ⟨_, rfl⟩
  have hd2 : diffM s (k : Int) (q : Int) d = s2 := by unfold diffM; rw [hp1, hp2, hs1]; exact hs2
  have h64 : I64 s1.2 := by rw [← hs1]; exact num_i64 (subV_64 _ _)
  have hinv2 : MkI s2.1 := by rw [← hd2]; exact diff_inv hinv _ _ _
  have hpre2 : Pre s s2.1 := by rw [← hd2]; exact diff_pre _ _ _ _
  have h264 : I64 s2.2 := by rw [← hd2]; exact diff_i64 _ _ _ _
  have hmay2 : s2.1.e = 0 → mayB s2.2 = true := fun he => by rw [← hd2] at he ⊢; exact (diff_z he).2.1
  have hr2 : (if ¬ p1.1 = p2.1 then putM most s2.1 (two2 12 p1.1 p2.1 s2.2) else if 0 ≤ s2.2 then (s2.1, 0) else negM most s2.1 0) = r := by rw [← hr]; unfold leM; rw [hd2, hp1, hp2]
  have HSp1 : Hid (∀ V a c, TabR V s.l a c → Calls Tryd.prog 59 #[.slice a s.l.length c, .int .i64 k] V fun e w' => e = .returned (.tuple #[.int .i64 p1.1, .int .i64 p1.2]) ∧ Below V.heap.size V w') := fun V a c ht => split_any s.l a c k p1 V ht hkl (by omega) hp1
  have HSp2 : Hid (∀ V a c, TabR V s.l a c → Calls Tryd.prog 59 #[.slice a s.l.length c, .int .i64 q] V fun e w' => e = .returned (.tuple #[.int .i64 p2.1, .int .i64 p2.2]) ∧ Below V.heap.size V w') := fun V a c ht => split_any s.l a c q p2 V ht hql (by omega) hp2
  have HSub : Hid (∀ V, Calls Tryd.prog 74 #[.int .i64 d, .int .i64 p1.2] V fun e w' => e = .returned (.tuple #[.int .i64 (subV d p1.2), .int .i64 (subE d p1.2)]) ∧ Below V.heap.size V w') := fun V => Sub_any d p1.2 V hd hf1
  have HAdd : Hid (∀ V, Calls Tryd.prog 69 #[.int .i64 s1.2, .int .i64 p2.2] V fun e w' => e = .returned (.tuple #[.int .i64 (addV s1.2 p2.2), .int .i64 (addE s1.2 p2.2)]) ∧ Below V.heap.size V w') := fun V => Add_any s1.2 p2.2 V h64 hf2
  have HN1 : Hid (∀ V, MkR V P M most s → Calls Tryd.prog 68 #[.pointer (some ⟨M, 0, none⟩), .int .i64 (subV d p1.2), .int .i64 (subE d p1.2)] V (MkPost P M most V s1)) := fun V hv => number_any P M most s _ _ s1 V hv (subE_c _ _) hs1
  have HN2 : Hid (∀ V, MkR V P M most s1.1 → Calls Tryd.prog 68 #[.pointer (some ⟨M, 0, none⟩), .int .i64 (addV s1.2 p2.2), .int .i64 (addE s1.2 p2.2)] V (MkPost P M most V s2)) := fun V hv => number_any P M most s1.1 _ _ s2 V hv (addE_c _ _) hs2
  have HA0 : Hid (At1 w w P M most s) := ⟨h, Kp.refl _ _⟩
  obtain ⟨a, c, b, hX⟩ := h
  obtain ⟨m0, m1, m2, m17, mlt, mfz⟩ := hX.cells
  have HTb := Lib.hid hX.tab
  have HX := Lib.hid hX
  have HIn := Lib.hid (And.intro hx (And.intro hy (And.intro hinv2 (And.intro hpre2 (And.intro h264 (And.intro hmay2 hr2))))))
  clear hX mfz hp1 hp2 hs1 hs2 hd2 h64 hf1 hf2 hx hy hinv hr hi hj hkl hql hlen hinv2 hpre2 h264 hmay2 hr2
  go_enter Tryd.func67, Tryd.ntmps67
  go_wp2_with fail
  refine (HSp1.out _ _ _ HTb.out).mono ?_
  rintro e w1 ⟨rfl, hb1⟩
  have HA1 : Hid (At1 w w1 P M most s) := HA0.out.below hb1
  have HX1 : Hid (MkX w1 P M most s a c b) := HX.out.move (hb1.block _ HX.out.lt) (hb1.block _ HX.out.map.lt) (fun g hg => hb1.block _ (own_lt HX.out.own hg).2) (fun k hk => ⟨HA1.out.mr.lt hk, (HX.out.apart k hk).2⟩)
  clear hb1 m0 m1 m2 m17 mlt
  obtain ⟨m0, m1, m2, m17, mlt, mfz⟩ := HX1.out.cells
  clear mfz
  go_wp2_with fail
  refine (HSp2.out _ _ _ HX1.out.tab).mono ?_
  rintro e w2 ⟨rfl, hb2⟩
  have HA2 : Hid (At1 w w2 P M most s) := HA1.out.below hb2
  clear hb2 m0 m1 m2 m17 mlt
  go_wp2_with fail
  refine (HSub.out _).mono ?_
  rintro e w3 ⟨rfl, hb3⟩
  have HA3 : Hid (At1 w w3 P M most s) := HA2.out.below hb3
  clear hb3
  go_wp2_with fail
  refine (HN1.out _ HA3.out.mr).mono ?_
  rintro e w4 ⟨rfl, hm4, hk4⟩
  have HA4 : Hid (At1 w w4 P M most s1.1) := HA3.out.step hm4 hk4
  clear hm4 hk4
  go_wp2_with fail
  refine (HAdd.out _).mono ?_
  rintro e w5 ⟨rfl, hb5⟩
  have HA5 : Hid (At1 w w5 P M most s1.1) := HA4.out.below hb5
  clear hb5
  go_wp2_with fail
  refine (HN2.out _ HA5.out.mr).mono ?_
  rintro e w6 ⟨rfl, hm6, hk6⟩
  have HA6 : Hid (At1 w w6 P M most s2.1) := HA5.out.step hm6 hk6
  clear hm6 hk6 HSp1 HSp2 HSub HAdd HN1 HN2
  by_cases hxy : p1.1 = p2.1
  · have e1 := ne_f hxy
    by_cases hz : 0 ≤ s2.2
    · have e2 : decide (0 ≤ s2.2) = true := decide_eq_true hz
      have hr3 : r = (s2.1, 0) := by rw [← HIn.out.2.2.2.2.2.2, if_neg (fun h => h hxy), if_pos hz]
      subst hr3
      clear hxy hz
      go_wp2_with fail
      go_ret
      exact ⟨rfl, HA6.out.mr, HA6.out.kp⟩
    · have e2 : decide (0 ≤ s2.2) = false := decide_eq_false hz
      have HNg : Hid (Calls Tryd.prog 65 #[.pointer (some ⟨M, 0, none⟩), .int .i64 0] w6 (MkPost P M most w6 r)) := neg_any P M most s2.1 0 r w6 HA6.out.mr hm (PlA.zero HIn.out.2.2.1) (by rw [← HIn.out.2.2.2.2.2.2, if_neg (fun h => h hxy), if_neg hz])
      clear hxy hz
      go_wp2_with fail
      refine HNg.out.mono ?_
      rintro e w7 ⟨rfl, hm7, hk7⟩
      go_wp2_with fail
      go_ret
      exact ⟨rfl, hm7, HA6.out.kp.trans hk7⟩
  have e1 := ne_t hxy
  obtain ⟨W7, hW7⟩ : ∃ W7, W7 = w6.alloc (.cells #[.int .i64 p1.1, .int .i64 p2.1] 3) := ⟨_, rfl⟩
  have hb7 : Below w6.heap.size w6 W7 := by rw [hW7]; exact (Below.refl _ w6).alloc (Nat.le_refl _) _
  have HA7 : Hid (At1 w W7 P M most s2.1) := HA6.out.below hb7
  have HNd : Hid (Calls Tryd.prog 66 #[.int .i8 12, .slice (some ⟨w6.heap.size, 0, none⟩) 2 2] W7 fun e w' => e = .returned (.agg #[.int .i8 12, .int .i8 2, .int .i64 p1.1, .int .i64 p2.1, .int .i64 0, .int .i64 0, .int .i64 0, .int .i64 0]) ∧ Below W7.heap.size W7 w') := node2_any 12 p1.1 p2.1 w6.heap.size _ W7 (by rw [hW7]; exact heap_alloc_new w6 _)
  have HPut : Hid (∀ V P', MkR V P' M most s2.1 → Calls Tryd.prog 48 #[.pointer (some ⟨M, 0, none⟩), .agg #[.int .i8 12, .int .i8 2, .int .i64 p1.1, .int .i64 p2.1, .int .i64 0, .int .i64 0, .int .i64 0, .int .i64 s2.2]] V (MkPost P' M most V r)) := fun V P' hv => by
    obtain ⟨px, py, hi2, hpre, h64, hmay, hre⟩ := HIn.out
    rw [if_pos hxy] at hre
    exact put_any P' M most s2.1 (two2 12 p1.1 p2.1 s2.2) r V hv hm (ok_two (i8_lit (by decide)) ((px.up hpre).i64 hi2.len) ((py.up hpre).i64 hi2.len) h64) (fun he => st_two (.inr ⟨rfl, hmay he⟩) (px.up hpre) (py.up hpre)) hre
  clear hb7 hxy
  go_wp2_with fail
  rw [← hW7]
  clear hW7
  refine HNd.out.mono ?_
  rintro e w8 ⟨rfl, hb8⟩
  have HA8 : Hid (At1 w w8 P M most s2.1) := HA7.out.below hb8
  clear hb8
  go_wp2_with fail
  refine (HPut.out _ P (HA8.out.below ((Below.refl _ w8).alloc (Nat.le_refl _) _)).mr).mono ?_
  rintro e w9 ⟨rfl, hm9, hk9⟩
  go_wp2_with fail
  go_ret
  exact ⟨rfl, hm9, (HA8.out.below ((Below.refl _ w8).alloc (Nat.le_refl _) _)).kp.trans hk9⟩
set_option maxRecDepth 100000 in
theorem le3_any (P : Nat → Prop) (M : Nat) (most : Int) (s : MkS) (n : NodeA) (r : MkS × Int) (w : World) (h : MkR w P M most s) (hm : most ≤ 2000) (hn : NodeOk n) (ha : PlA s n.a0) (hb : PlA s n.a1) (hr : leM most s n.a0 n.a1 0 = r) :
    Calls Tryd.prog 54 #[.pointer (some ⟨M, 0, none⟩), .agg #[.int .i8 n.op, .int .i8 n.len, .int .i64 n.a0, .int .i64 n.a1, .int .i64 n.a2, .int .i64 n.sort, .int .i64 n.fn, .int .i64 n.num]] w (MkPost P M most w r) := by
  obtain ⟨W0, hW0⟩ : ∃ W0, W0 = w.alloc (.cells #[.int .i8 n.op, .int .i8 n.len, .int .i64 n.a0, .int .i64 n.a1, .int .i64 n.a2, .int .i64 n.sort, .int .i64 n.fn, .int .i64 n.num] 36) := ⟨_, rfl⟩
  have HN : Hid (NdB w W0 P M most s n) := by show NdB _ _ _ _ _ _ _; rw [hW0]; exact ndB h n
  obtain ⟨n0, n1, n2, n3, n4, n5, n6, n7, zn⟩ := HN.out.cells (Kp.refl _ _)
  have HC : Hid (Calls Tryd.prog 67 #[.pointer (some ⟨M, 0, none⟩), .int .i64 n.a0, .int .i64 n.a1, .int .i64 0] W0 (MkPost (And1 P w.heap.size) M most W0 r)) := le_any _ M most s n.a0 n.a1 0 r W0 HN.out.mr hm ha hb (z64) hr
  clear h ha hb hr hn
  go_enter Tryd.func54, Tryd.ntmps54
  go_wp2_with fail
  rw [← hW0]
  clear hW0
  refine HC.out.mono ?_
  rintro e w1 ⟨rfl, h1, h2⟩
  go_wp2_with fail
  go_ret
  exact HN.out.post h1 h2 rfl
set_option maxRecDepth 100000 in
theorem lt_any (P : Nat → Prop) (M : Nat) (most : Int) (s : MkS) (n : NodeA) (r : MkS × Int) (w : World) (h : MkR w P M most s) (hm : most ≤ 2000) (hn : NodeOk n) (ha : PlA s n.a0) (hb : PlA s n.a1) (hr : leM most s n.a0 n.a1 (-1) = r) :
    Calls Tryd.prog 55 #[.pointer (some ⟨M, 0, none⟩), .agg #[.int .i8 n.op, .int .i8 n.len, .int .i64 n.a0, .int .i64 n.a1, .int .i64 n.a2, .int .i64 n.sort, .int .i64 n.fn, .int .i64 n.num]] w (MkPost P M most w r) := by
  obtain ⟨W0, hW0⟩ : ∃ W0, W0 = w.alloc (.cells #[.int .i8 n.op, .int .i8 n.len, .int .i64 n.a0, .int .i64 n.a1, .int .i64 n.a2, .int .i64 n.sort, .int .i64 n.fn, .int .i64 n.num] 36) := ⟨_, rfl⟩
  have HN : Hid (NdB w W0 P M most s n) := by show NdB _ _ _ _ _ _ _; rw [hW0]; exact ndB h n
  obtain ⟨n0, n1, n2, n3, n4, n5, n6, n7, zn⟩ := HN.out.cells (Kp.refl _ _)
  have HC : Hid (Calls Tryd.prog 67 #[.pointer (some ⟨M, 0, none⟩), .int .i64 n.a0, .int .i64 n.a1, .int .i64 (-1)] W0 (MkPost (And1 P w.heap.size) M most W0 r)) := le_any _ M most s n.a0 n.a1 (-1) r W0 HN.out.mr hm ha hb (l64 (by decide)) hr
  clear h ha hb hr hn
  go_enter Tryd.func55, Tryd.ntmps55
  go_wp2_with fail
  rw [← hW0]
  clear hW0
  refine HC.out.mono ?_
  rintro e w1 ⟨rfl, h1, h2⟩
  go_wp2_with fail
  go_ret
  exact HN.out.post h1 h2 rfl
set_option maxRecDepth 100000 in
theorem diff_any (P : Nat → Prop) (M : Nat) (most : Int) (s : MkS) (n : NodeA) (r : MkS × Int) (w : World) (h : MkR w P M most s) (hm : most ≤ 2000) (hn : NodeOk n) (ha : PlA s n.a0) (hb : PlA s n.a1) (hr : leM most s n.a0 n.a1 n.num = r) :
    Calls Tryd.prog 57 #[.pointer (some ⟨M, 0, none⟩), .agg #[.int .i8 n.op, .int .i8 n.len, .int .i64 n.a0, .int .i64 n.a1, .int .i64 n.a2, .int .i64 n.sort, .int .i64 n.fn, .int .i64 n.num]] w (MkPost P M most w r) := by
  obtain ⟨W0, hW0⟩ : ∃ W0, W0 = w.alloc (.cells #[.int .i8 n.op, .int .i8 n.len, .int .i64 n.a0, .int .i64 n.a1, .int .i64 n.a2, .int .i64 n.sort, .int .i64 n.fn, .int .i64 n.num] 36) := ⟨_, rfl⟩
  have HN : Hid (NdB w W0 P M most s n) := by show NdB _ _ _ _ _ _ _; rw [hW0]; exact ndB h n
  obtain ⟨n0, n1, n2, n3, n4, n5, n6, n7, zn⟩ := HN.out.cells (Kp.refl _ _)
  have HC : Hid (Calls Tryd.prog 67 #[.pointer (some ⟨M, 0, none⟩), .int .i64 n.a0, .int .i64 n.a1, .int .i64 n.num] W0 (MkPost (And1 P w.heap.size) M most W0 r)) := le_any _ M most s n.a0 n.a1 n.num r W0 HN.out.mr hm ha hb (hn.num) hr
  clear h ha hb hr hn
  go_enter Tryd.func57, Tryd.ntmps57
  go_wp2_with fail
  rw [← hW0]
  clear hW0
  refine HC.out.mono ?_
  rintro e w1 ⟨rfl, h1, h2⟩
  go_wp2_with fail
  go_ret
  exact HN.out.post h1 h2 rfl
end Go.Proofs.YtjibhkgphahbaaaDoor.Tm
