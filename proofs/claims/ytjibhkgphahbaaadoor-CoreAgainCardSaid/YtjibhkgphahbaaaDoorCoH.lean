/- Core: the sum of an image and a number. -/
import Derived.Test.YtjibhkgphahbaaaDoorCoG
namespace Go.Proofs.YtjibhkgphahbaaaDoor.Tm
open Go.RowKit
set_option linter.unusedVariables false
theorem Kp.set {P : Nat → Prop} {w : World} {b o : Nat} (h : ∀ k, P k → k ≠ b) (v : Value) : Kp P w (w.setCell ⟨b, o, none⟩ v) := ⟨rfl, rfl, rfl, by simp, fun k hk => Below.heap_setCell _ _ _ _ (h k hk)⟩
set_option maxRecDepth 100000 in
set_option maxHeartbeats 4000000 in
theorem sum_any (P : Nat → Prop) (M : Nat) (most : Int) (s : MkS) (n : NodeA) (r : MkS × Int) (w : World) (h : MkR w P M most s) (hm : most ≤ 2000) (hn : NodeOk n) (ho : n.op = 11) (ha : PlA s n.a0) (hs : s.e = 0 → standsB n s.l.length = true) (hr : sumM most s n = r) :
    Calls Tryd.prog 56 #[.pointer (some ⟨M, 0, none⟩), .agg #[.int .i8 n.op, .int .i8 n.len, .int .i64 n.a0, .int .i64 n.a1, .int .i64 n.a2, .int .i64 n.sort, .int .i64 n.fn, .int .i64 n.num]] w (MkPost P M most w r) := by
  obtain ⟨k, hk, hkl⟩ := ha.nat
  obtain ⟨W0, hW0⟩ : ∃ W0, W0 = w.alloc (.cells #[.int .i8 n.op, .int .i8 n.len, .int .i64 n.a0, .int .i64 n.a1, .int .i64 n.a2, .int .i64 n.sort, .int .i64 n.fn, .int .i64 n.num] 36) := ⟨_, rfl⟩
  have HN : Hid (NdB w W0 P M most s n) := by show NdB _ _ _ _ _ _ _; rw [hW0]; exact ndB h n
  have hinv := h.inv
  have hlen := hinv.len
  obtain ⟨p1, hp1⟩ : ∃ p, splitA s.l (k : Int) = p := ⟨_, rfl⟩
  have hx := split_pl hinv ha
  have hf1 := may_i64 (split_may hinv ha)
  rw [hk, hp1] at hx hf1
  obtain ⟨s1, hs1⟩ : ∃ r, numM s (addV p1.2 n.num) (addE p1.2 n.num) = r := ⟨_, rfl⟩
  have hpre : Pre s s1.1 := by rw [← hs1]; exact num_pre _ _ _
  have hi1 : MkI s1.1 := by rw [← hs1]; exact num_inv hinv (addE_c _ _)
  have hl1 : s1.1.l = s.l := by rw [← hs1]; exact num_l _ _ _
  have h64 : I64 s1.2 := by rw [← hs1]; exact num_i64 (addV_64 _ _)
  have hmay : s1.1.e = 0 → s.e = 0 ∧ mayB s1.2 = true := fun he => by
    rw [← hs1] at he ⊢
    obtain ⟨g1, g2, g3⟩ := num_ok he
    obtain ⟨_, _, g4, g5⟩ := add_z g1
    exact ⟨g2, by rw [g3, g5]; exact g4⟩
  have hr2 : (if s1.2 = 0 then (s1.1, p1.1) else if p1.1 = 1 then putM most s1.1 ⟨10, 0, 0, 0, 0, 1, 0, s1.2⟩ else putM most s1.1 { n with a0 := p1.1, num := s1.2 }) = r := by rw [← hr]; unfold sumM; rw [hk, hp1, hs1]
  have HSp1 : Hid (∀ V a c, TabR V s.l a c → Calls Tryd.prog 59 #[.slice a s.l.length c, .int .i64 k] V fun e w' => e = .returned (.tuple #[.int .i64 p1.1, .int .i64 p1.2]) ∧ Below V.heap.size V w') := fun V a c ht => split_any s.l a c k p1 V ht hkl (by omega) hp1
  have HAdd : Hid (∀ V, Calls Tryd.prog 69 #[.int .i64 p1.2, .int .i64 n.num] V fun e w' => e = .returned (.tuple #[.int .i64 (addV p1.2 n.num), .int .i64 (addE p1.2 n.num)]) ∧ Below V.heap.size V w') := fun V => Add_any p1.2 n.num V hf1 hn.num
  have HN1 : Hid (∀ V, MkR V (And1 P w.heap.size) M most s → Calls Tryd.prog 68 #[.pointer (some ⟨M, 0, none⟩), .int .i64 (addV p1.2 n.num), .int .i64 (addE p1.2 n.num)] V (MkPost (And1 P w.heap.size) M most V s1)) := fun V hv => number_any _ M most s _ _ s1 V hv (addE_c _ _) hs1
  have HP1 : Hid (¬ s1.2 = 0 → p1.1 = 1 → ∀ V, MkR V (And1 P w.heap.size) M most s1.1 → Calls Tryd.prog 48 #[.pointer (some ⟨M, 0, none⟩), .agg #[.int .i8 10, .int .i8 0, .int .i64 0, .int .i64 0, .int .i64 0, .int .i64 1, .int .i64 0, .int .i64 s1.2]] V (MkPost (And1 P w.heap.size) M most V r)) := fun h1 h2 V hv => by
    rw [if_neg h1, if_pos h2] at hr2
    exact put_any _ M most s1.1 ⟨10, 0, 0, 0, 0, 1, 0, s1.2⟩ r V hv hm ⟨i8_lit (n := 10) (by decide), i8_lit (n := 0) (by decide), z64, z64, z64, l64 (n := 1) (by decide), z64, h64⟩ (fun he => st_num (hmay he).2) hr2
  have HP2 : Hid (¬ s1.2 = 0 → ¬ p1.1 = 1 → ∀ V, MkR V (And1 P w.heap.size) M most s1.1 → Calls Tryd.prog 48 #[.pointer (some ⟨M, 0, none⟩), .agg #[.int .i8 n.op, .int .i8 n.len, .int .i64 p1.1, .int .i64 n.a1, .int .i64 n.a2, .int .i64 n.sort, .int .i64 n.fn, .int .i64 s1.2]] V (MkPost (And1 P w.heap.size) M most V r)) := fun h1 h2 V hv => by
    rw [if_neg h1, if_neg h2] at hr2
    exact put_any _ M most s1.1 { n with a0 := p1.1, num := s1.2 } r V hv hm ⟨hn.op, hn.len, hx.i64 hlen, hn.a1, hn.a2, hn.sort, hn.fn, h64⟩ (fun he => stands_sum (by rw [hl1]; exact hs (hmay he).1) ho (hx.up hpre) (hmay he).2) hr2
  have HR0 : Hid (s1.2 = 0 → r = (s1.1, p1.1)) := fun h1 => by rw [← hr2, if_pos h1]
  obtain ⟨a, c, b, hX⟩ := HN.out.mr
  obtain ⟨m0, m1, m2, m17, mlt, mfz⟩ := hX.cells
  obtain ⟨n0, n1, n2, n3, n4, n5, n6, n7, zn⟩ := HN.out.cells (Kp.refl _ _)
  rw [hk] at n2
  have HTb : Hid (∀ V, V.heap = W0.heap → TabR V s.l a c) := fun V hV => (MkX.move hX (by rw [hV]) (by rw [hV]) (fun g _ => by rw [hV]) (fun k hk => by rw [hV]; exact hX.apart k hk) : MkX V (And1 P w.heap.size) M most s a c b).tab
  have HS2 : Hid (∀ V, Below W0.heap.size W0 V → V.cell? ⟨w.heap.size, 2, none⟩ = some (.int .i64 k) ∧ V.cell? ⟨M, 0, none⟩ = some (.slice a s.l.length c)) := fun V hV => ⟨(hV.cell (p := ⟨w.heap.size, 2, none⟩) zn).trans n2, (hV.cell (p := ⟨M, 0, none⟩) mlt).trans m0⟩
  have HLt := Lib.hid h.lts
  clear hX mfz hp1 hs1 h64 hf1 hx hinv hr hk hkl ha hs hn ho h hr2 hmay hl1 hi1 hpre hlen
  go_enter Tryd.func56, Tryd.ntmps56
  go_wp2_with fail
  rw [← hW0]
  clear hW0
  go_region_held3 (fun V => V.cell? ⟨w.heap.size, 2, none⟩ = some (.int .i64 k) ∧ V.cell? ⟨M, 0, none⟩ = some (.slice a s.l.length c))
    (first | exact ⟨n2, m0⟩ | with_reducible exact HS2.out _ HB1.out)
    (first | (go_at_call 59; refine (HSp1.out _ _ _ (HTb.out _ (by rfl))).mono ?_; rintro e w1 ⟨rfl, hb1⟩; have HB1 := Lib.hid (show Below W0.heap.size W0 w1 from (Below.refl _ W0).drew.trans hb1); clear hb1))
  have HA1 : Hid (At1 W0 w1 (And1 P w.heap.size) M most s) := ⟨HN.out.mr.below HB1.out, (HN.out.mr.news HB1.out).2⟩
  clear n0 n1 n2 n3 n4 n5 n6 n7 zn m0 m1 m2 m17 mlt HSp1 HTb HS2
  obtain ⟨n0, n1, n2, n3, n4, n5, n6, n7, zn⟩ := HN.out.cells HA1.out.kp
  go_wp2_with fail
  refine (HAdd.out _).mono ?_
  rintro e w2 ⟨rfl, hb2⟩
  have HA2 : Hid (At1 W0 w2 (And1 P w.heap.size) M most s) := HA1.out.below hb2
  clear hb2 n0 n1 n2 n3 n4 n5 n6 n7 zn
  go_wp2_with fail
  refine (HN1.out _ HA2.out.mr).mono ?_
  rintro e w3 ⟨rfl, hm3, hk3⟩
  have HA3 : Hid (At1 W0 w3 (And1 P w.heap.size) M most s1.1) := HA2.out.step hm3 hk3
  clear hm3 hk3 HAdd HN1
  obtain ⟨n0, n1, n2, n3, n4, n5, n6, n7, zn⟩ := HN.out.cells HA3.out.kp
  by_cases h0 : s1.2 = 0
  · have e0 := eq_t h0
    obtain rfl := HR0.out h0
    clear h0 HP1 HP2 HR0
    go_wp2_with fail
    go_ret
    exact HN.out.post HA3.out.mr HA3.out.kp rfl
  have e0 := eq_f h0
  by_cases h1 : p1.1 = 1
  · have e1 := eq_t h1
    have HP := Lib.hid (HP1.out h0 h1)
    clear h0 h1 HP1 HP2 HR0
    go_wp2_with fail
    refine (HP.out _ HA3.out.mr).mono ?_
    rintro e w4 ⟨rfl, hm4, hk4⟩
    go_wp2_with fail
    go_ret
    exact HN.out.post hm4 (HA3.out.kp.trans hk4) rfl
  have e1 := eq_f h1
  have HP := Lib.hid (HP2.out h0 h1)
  have hfz : ∀ i, w3.frozen? ⟨w.heap.size, i, none⟩ = false := fun i => by simp [World.frozen?, (HA3.out.kp.keep _ (.inr rfl)).trans HN.out.box]
  have f2 := hfz 2
  have f7 := hfz 7
  clear h0 h1 HP1 HP2 HR0 hfz
  go_wp2_with fail
  refine (HP.out _ ((HA3.out.mr.set (k := w.heap.size) (o := 2) (.inr rfl) _).set (k := w.heap.size) (o := 7) (.inr rfl) _)).mono ?_
  rintro e w4 ⟨rfl, hm4, hk4⟩
  go_wp2_with fail
  go_ret
  have hne : ∀ k, P k → k ≠ w.heap.size := fun k hk => Nat.ne_of_lt (HLt.out k hk)
  exact ⟨rfl, hm4.less (fun _ h => .inl h), HN.out.kp.trans ((HA3.out.kp.less (fun _ h => .inl h)).trans ((Kp.set hne _).trans ((Kp.set hne _).trans (hk4.less (fun _ h => .inl h)))))⟩
end Go.Proofs.YtjibhkgphahbaaaDoor.Tm
