/- Core: equal and unlike. -/
import Derived.Test.YtfbjgadgfjnamaaGreatDoorZCoG
namespace Go.Proofs.YtfbjgadgfjnamaaGreatDoor.Tm
open Go.RowKit
set_option linter.unusedVariables false
theorem Kp.set {P : Nat → Prop} {w : World} {b o : Nat} (h : ∀ k, P k → k ≠ b) (v : Value) : Kp P w (w.setCell ⟨b, o, none⟩ v) := ⟨rfl, rfl, rfl, by simp, fun k hk => Below.heap_setCell _ _ _ _ (h k hk)⟩
set_option maxRecDepth 100000 in
set_option maxHeartbeats 4000000 in
theorem sum_any (P : Nat → Prop) (M : Nat) (most : Int) (s : MkS) (n : NodeA) (r : MkS × Int) (w : World) (h : MkR w P M most s) (hm : most ≤ 2000) (hn : NodeOk n) (ho : n.op = 11) (ha : PlA s n.a0) (hs : s.e = 0 → standsB n s.l.length = true) (hr : sumM most s n = r) :
    Calls Tryz.prog 106 #[.pointer (some ⟨M, 0, none⟩), .agg #[.int .i8 n.op, .int .i8 n.len, .int .i64 n.a0, .int .i64 n.a1, .int .i64 n.a2, .int .i64 n.sort, .int .i64 n.fn, .int .i64 n.num]] w (MkPost P M most w r) := by
  obtain ⟨k, hk, hkl⟩ := ha.nat
  obtain ⟨W0, hW0⟩ : ∃ W0, W0 = w.alloc (.cells #[.int .i8 n.op, .int .i8 n.len, .int .i64 n.a0, .int .i64 n.a1, .int .i64 n.a2, .int .i64 n.sort, .int .i64 n.fn, .int .i64 n.num] 47) := ⟨_, rfl⟩
  have HN : Hid (NdB w W0 P M most s n) := by show NdB _ _ _ _ _ _ _; rw [hW0]; exact ndB h n
  have hinv := h.inv
  have hlen := hinv.len
  obtain ⟨p1, hp1⟩ : ∃ p, splitA s.l (k : Int) = p := ⟨_, rfl⟩
  have hx := split_pl hinv ha
  have hf1 := may_i64 (split_may hinv ha)
  rw [hk, hp1] at hx hf1
  obtain ⟨s1, hs1⟩ : ∃ r, numM s (addV p1.2 n.num) (addE p1.2 n.num) = r := ⟨_, rfl⟩
  have hpre : Pre s s1.1 := by rw [← hs1]; exact num_pre _ _ _
  have hi1 : MkI s1.1 := by rw [← hs1]; exact num_inv hinv (addE_c _ _)
  have hl1 : s1.1.l = s.l := by rw [← hs1]; exact num_l _ _ _
  have h64 : I64 s1.2 := by rw [← hs1]; exact num_i64 (addV_64 _ _)
  have hmay : s1.1.e = 0 → s.e = 0 ∧ mayB s1.2 = true := fun he => by
    rw [← hs1] at he ⊢
    obtain ⟨g1, g2, g3⟩ := num_ok he
    obtain ⟨_, _, g4, g5⟩ := add_z g1
    exact ⟨g2, by rw [g3, g5]; exact g4⟩
  have hr2 : (if s1.2 = 0 then (s1.1, p1.1) else if p1.1 = 1 then putM most s1.1 ⟨10, 0, 0, 0, 0, 1, 0, s1.2⟩ else putM most s1.1 { n with a0 := p1.1, num := s1.2 }) = r := by rw [← hr]; unfold sumM; rw [hk, hp1, hs1]
  have HSp1 : Hid (∀ V a c, TabR V s.l a c → Calls Tryz.prog 129 #[.slice a s.l.length c, .int .i64 k] V fun e w' => e = .returned (.tuple #[.int .i64 p1.1, .int .i64 p1.2]) ∧ Below V.heap.size V w') := fun V a c ht => split_any s.l a c k p1 V ht hkl (by omega) hp1
  have HAdd : Hid (∀ V, Calls Tryz.prog 147 #[.int .i64 p1.2, .int .i64 n.num] V fun e w' => e = .returned (.tuple #[.int .i64 (addV p1.2 n.num), .int .i64 (addE p1.2 n.num)]) ∧ Below V.heap.size V w') := fun V => Add_any p1.2 n.num V hf1 hn.num
  have HN1 : Hid (∀ V, MkR V (And1 P w.heap.size) M most s → Calls Tryz.prog 146 #[.pointer (some ⟨M, 0, none⟩), .int .i64 (addV p1.2 n.num), .int .i64 (addE p1.2 n.num)] V (MkPost (And1 P w.heap.size) M most V s1)) := fun V hv => number_any _ M most s _ _ s1 V hv (addE_c _ _) hs1
  have HP1 : Hid (¬ s1.2 = 0 → p1.1 = 1 → ∀ V, MkR V (And1 P w.heap.size) M most s1.1 → Calls Tryz.prog 98 #[.pointer (some ⟨M, 0, none⟩), .agg #[.int .i8 10, .int .i8 0, .int .i64 0, .int .i64 0, .int .i64 0, .int .i64 1, .int .i64 0, .int .i64 s1.2]] V (MkPost (And1 P w.heap.size) M most V r)) := fun h1 h2 V hv => by
    rw [if_neg h1, if_pos h2] at hr2
    exact put_any _ M most s1.1 ⟨10, 0, 0, 0, 0, 1, 0, s1.2⟩ r V hv hm ⟨i8_lit (n := 10) (by decide), i8_lit (n := 0) (by decide), z64, z64, z64, l64 (n := 1) (by decide), z64, h64⟩ (fun he => st_num (hmay he).2) hr2
  have HP2 : Hid (¬ s1.2 = 0 → ¬ p1.1 = 1 → ∀ V, MkR V (And1 P w.heap.size) M most s1.1 → Calls Tryz.prog 98 #[.pointer (some ⟨M, 0, none⟩), .agg #[.int .i8 n.op, .int .i8 n.len, .int .i64 p1.1, .int .i64 n.a1, .int .i64 n.a2, .int .i64 n.sort, .int .i64 n.fn, .int .i64 s1.2]] V (MkPost (And1 P w.heap.size) M most V r)) := fun h1 h2 V hv => by
    rw [if_neg h1, if_neg h2] at hr2
    exact put_any _ M most s1.1 { n with a0 := p1.1, num := s1.2 } r V hv hm ⟨hn.op, hn.len, hx.i64 hlen, hn.a1, hn.a2, hn.sort, hn.fn, h64⟩ (fun he => stands_sum (by rw [hl1]; exact hs (hmay he).1) ho (hx.up hpre) (hmay he).2) hr2
  have HR0 : Hid (s1.2 = 0 → r = (s1.1, p1.1)) := fun h1 => by rw [← hr2, if_pos h1]
  obtain ⟨a, c, b, hX⟩ := HN.out.mr
  obtain ⟨m0, m1, m2, m17, mlt, mfz⟩ := hX.cells
  obtain ⟨n0, n1, n2, n3, n4, n5, n6, n7, zn⟩ := HN.out.cells (Kp.refl _ _)
  rw [hk] at n2
  have HTb : Hid (∀ V, V.heap = W0.heap → TabR V s.l a c) := fun V hV => (MkX.move hX (by rw [hV]) (by rw [hV]) (fun g _ => by rw [hV]) (fun k hk => by rw [hV]; exact hX.apart k hk) : MkX V (And1 P w.heap.size) M most s a c b).tab
  have HS2 : Hid (∀ V, Below W0.heap.size W0 V → V.cell? ⟨w.heap.size, 2, none⟩ = some (.int .i64 k) ∧ V.cell? ⟨M, 0, none⟩ = some (.slice a s.l.length c)) := fun V hV => ⟨(hV.cell (p := ⟨w.heap.size, 2, none⟩) zn).trans n2, (hV.cell (p := ⟨M, 0, none⟩) mlt).trans m0⟩
  have HLt := Lib.hid h.lts
  clear hX mfz hp1 hs1 h64 hf1 hx hinv hr hk hkl ha hs hn ho h hr2 hmay hl1 hi1 hpre hlen
  go_enter Tryz.func106, Tryz.ntmps106
  go_wp2_with fail
  rw [← hW0]
  clear hW0
  go_region_held3 (fun V => V.cell? ⟨w.heap.size, 2, none⟩ = some (.int .i64 k) ∧ V.cell? ⟨M, 0, none⟩ = some (.slice a s.l.length c))
    (first | exact ⟨n2, m0⟩ | with_reducible exact HS2.out _ HB1.out)
    (first | (go_at_call 129; refine (HSp1.out _ _ _ (HTb.out _ (by rfl))).mono ?_; rintro e w1 ⟨rfl, hb1⟩; have HB1 := Lib.hid (show Below W0.heap.size W0 w1 from (Below.refl _ W0).drew.trans hb1); clear hb1))
  have HA1 : Hid (At1 W0 w1 (And1 P w.heap.size) M most s) := ⟨HN.out.mr.below HB1.out, (HN.out.mr.news HB1.out).2⟩
  clear n0 n1 n2 n3 n4 n5 n6 n7 zn m0 m1 m2 m17 mlt HSp1 HTb HS2
  obtain ⟨n0, n1, n2, n3, n4, n5, n6, n7, zn⟩ := HN.out.cells HA1.out.kp
  go_wp2_with fail
  refine (HAdd.out _).mono ?_
  rintro e w2 ⟨rfl, hb2⟩
  have HA2 : Hid (At1 W0 w2 (And1 P w.heap.size) M most s) := HA1.out.below hb2
  clear hb2 n0 n1 n2 n3 n4 n5 n6 n7 zn
  go_wp2_with fail
  refine (HN1.out _ HA2.out.mr).mono ?_
  rintro e w3 ⟨rfl, hm3, hk3⟩
  have HA3 : Hid (At1 W0 w3 (And1 P w.heap.size) M most s1.1) := HA2.out.step hm3 hk3
  clear hm3 hk3 HAdd HN1
  obtain ⟨n0, n1, n2, n3, n4, n5, n6, n7, zn⟩ := HN.out.cells HA3.out.kp
  by_cases h0 : s1.2 = 0
  · have e0 := eq_t h0
    obtain rfl := HR0.out h0
    clear h0 HP1 HP2 HR0
    go_wp2_with fail
    go_ret
    exact HN.out.post HA3.out.mr HA3.out.kp rfl
  have e0 := eq_f h0
  by_cases h1 : p1.1 = 1
  · have e1 := eq_t h1
    have HP := Lib.hid (HP1.out h0 h1)
    clear h0 h1 HP1 HP2 HR0
    go_wp2_with fail
    refine (HP.out _ HA3.out.mr).mono ?_
    rintro e w4 ⟨rfl, hm4, hk4⟩
    go_wp2_with fail
    go_ret
    exact HN.out.post hm4 (HA3.out.kp.trans hk4) rfl
  have e1 := eq_f h1
  have HP := Lib.hid (HP2.out h0 h1)
  have hfz : ∀ i, w3.frozen? ⟨w.heap.size, i, none⟩ = false := fun i => by simp [World.frozen?, (HA3.out.kp.keep _ (.inr rfl)).trans HN.out.box]
  have f2 := hfz 2
  have f7 := hfz 7
  clear h0 h1 HP1 HP2 HR0 hfz
  go_wp2_with fail
  refine (HP.out _ ((HA3.out.mr.set (k := w.heap.size) (o := 2) (.inr rfl) _).set (k := w.heap.size) (o := 7) (.inr rfl) _)).mono ?_
  rintro e w4 ⟨rfl, hm4, hk4⟩
  go_wp2_with fail
  go_ret
  have hne : ∀ k, P k → k ≠ w.heap.size := fun k hk => Nat.ne_of_lt (HLt.out k hk)
  exact ⟨rfl, hm4.less (fun _ h => .inl h), HN.out.kp.trans ((HA3.out.kp.less (fun _ h => .inl h)).trans ((Kp.set hne _).trans ((Kp.set hne _).trans (hk4.less (fun _ h => .inl h)))))⟩
end Go.Proofs.YtfbjgadgfjnamaaGreatDoor.Tm
namespace Go.Proofs.YtfbjgadgfjnamaaGreatDoor.Tm
open Go.RowKit
set_option linter.unusedVariables false
theorem NdB.cellsX {w W0 V : World} {P : Nat → Prop} {M : Nat} {most : Int} {s : MkS} {op len a0 a1 a2 sort fn num : Int} (h : NdB w W0 P M most s ⟨op, len, a0, a1, a2, sort, fn, num⟩) (hk : Kp (And1 P w.heap.size) W0 V) : V.cell? ⟨w.heap.size, 0, none⟩ = some (.int .i8 op) ∧ V.cell? ⟨w.heap.size, 1, none⟩ = some (.int .i8 len) ∧ V.cell? ⟨w.heap.size, 2, none⟩ = some (.int .i64 a0) ∧ V.cell? ⟨w.heap.size, 3, none⟩ = some (.int .i64 a1) ∧ V.cell? ⟨w.heap.size, 4, none⟩ = some (.int .i64 a2) ∧ V.cell? ⟨w.heap.size, 5, none⟩ = some (.int .i64 sort) ∧ V.cell? ⟨w.heap.size, 6, none⟩ = some (.int .i64 fn) ∧ V.cell? ⟨w.heap.size, 7, none⟩ = some (.int .i64 num) ∧ w.heap.size < V.heap.size := h.cells hk
/-- The cells of a maker's node. -/
theorem MkX.nodeC {w : World} {P : Nat → Prop} {M : Nat} {most : Int} {s : MkS} {g o : Nat} {c b k : Nat} {y : NodeA} (h : MkX w P M most s (some ⟨g, o, none⟩) c b) (hk : s.l[k]? = some y) : g < w.heap.size ∧ w.cell? ⟨g, o + k * 8 + 5, none⟩ = some (.int .i64 y.sort) := by
  obtain ⟨g', o', e, hg, _, _, _, _, _, y5, _, _⟩ := h.tab.node hk
  cases e
  exact ⟨hg, y5⟩
theorem MkX.adr {w : World} {P : Nat → Prop} {M : Nat} {most : Int} {s : MkS} {a : Option Addr} {c b : Nat} (h : MkX w P M most s a c b) : ∃ g o, a = some ⟨g, o, none⟩ := by
  obtain ⟨g', o', e, _⟩ := h.tab.node (nodA_get (by have := h.inv.le; omega : 0 < s.l.length))
  exact ⟨g', o', e⟩
/-- A maker where nothing turned but draws. -/
theorem MkX.same {w w' : World} {P : Nat → Prop} {M : Nat} {most : Int} {s : MkS} {a : Option Addr} {c b : Nat} (h : MkX w P M most s a c b) (e : w'.heap = w.heap) : MkX w' P M most s a c b := h.move (by rw [e]) (by rw [e]) (fun g _ => by rw [e]) (fun k hk => by rw [e]; exact h.apart k hk)
set_option maxRecDepth 100000 in
set_option maxHeartbeats 4000000 in
theorem eq_any (P : Nat → Prop) (M : Nat) (most : Int) (s : MkS) (n : NodeA) (r : MkS × Int) (w : World) (h : MkR w P M most s) (hm : most ≤ 2000) (hn : NodeOk n) (ha : PlA s n.a0) (hb : PlA s n.a1) (hs : s.e = 0 → standsB n s.l.length = true) (hr : eqM most s n = r) :
    Calls Tryz.prog 102 #[.pointer (some ⟨M, 0, none⟩), .agg #[.int .i8 n.op, .int .i8 n.len, .int .i64 n.a0, .int .i64 n.a1, .int .i64 n.a2, .int .i64 n.sort, .int .i64 n.fn, .int .i64 n.num]] w (MkPost P M most w r) := by
  obtain ⟨op, len, a0, a1, a2, sort, fn, num⟩ := n
  have ha : PlA s a0 := ha
  have hb : PlA s a1 := hb
  obtain ⟨k, rfl, hkl⟩ := ha.nat
  obtain ⟨q, rfl, hql⟩ := hb.nat
  show Calls _ _ #[.pointer (some ⟨M, 0, none⟩), .agg #[.int .i8 op, .int .i8 len, .int .i64 k, .int .i64 q, .int .i64 a2, .int .i64 sort, .int .i64 fn, .int .i64 num]] _ _
  obtain ⟨W0, hW0⟩ : ∃ W0, W0 = w.alloc (.cells #[.int .i8 op, .int .i8 len, .int .i64 k, .int .i64 q, .int .i64 a2, .int .i64 sort, .int .i64 fn, .int .i64 num] 47) := ⟨_, rfl⟩
  have HN : Hid (NdB w W0 P M most s ⟨op, len, k, q, a2, sort, fn, num⟩) := by show NdB _ _ _ _ _ _ _; rw [hW0]; exact ndB h ⟨op, len, k, q, a2, sort, fn, num⟩
  have hinv := h.inv
  have hlen := hinv.len
  have hg := nodA_get hkl
  obtain ⟨y, hy⟩ : ∃ y, nodA s.l (k : Int) = y := ⟨_, rfl⟩
  rw [hy] at hg
  obtain ⟨a, c, b, hX⟩ := HN.out.mr
  obtain ⟨g, o, rfl⟩ := hX.adr
  have HX := Lib.hid hX
  have HGt := Lib.hid hg
  obtain ⟨n0, n1, n2, n3, n4, n5, n6, n7, zn⟩ := HN.out.cellsX (Kp.refl _ _)
  have hki : (k : Int) < (s.l.length : Int) := by omega
  have hk0 : (0 : Int) ≤ (k : Int) := by omega
  have hr2 : (if y.sort = 0 then putM most s ⟨op, len, k, q, a2, sort, fn, num⟩ else if y.sort = 1 then eqI most s (k : Int) (q : Int) else if (k : Int) = (q : Int) then (s, 0) else putM most s (two2 6 (min (k : Int) (q : Int)) (max (k : Int) (q : Int)) 0)) = r := by rw [← hr]; show _ = (if (nodA s.l (k : Int)).sort = 0 then _ else if (nodA s.l (k : Int)).sort = 1 then _ else _); rw [hy]
  have HInv := Lib.hid (And.intro hinv (And.intro ha (And.intro hb (And.intro hn hs))))
  clear hX hg hy hr ha hb hn hs hinv h
  by_cases h0 : y.sort = 0
  · have e0 := eq_t h0
    rw [if_pos h0] at hr2
    have HP : Hid (∀ V, MkR V (And1 P w.heap.size) M most s → Calls Tryz.prog 98 #[.pointer (some ⟨M, 0, none⟩), .agg #[.int .i8 op, .int .i8 len, .int .i64 k, .int .i64 q, .int .i64 a2, .int .i64 sort, .int .i64 fn, .int .i64 num]] V (MkPost (And1 P w.heap.size) M most V r)) := fun V hv => put_any _ M most s ⟨op, len, k, q, a2, sort, fn, num⟩ r V hv hm HInv.out.2.2.2.1 HInv.out.2.2.2.2 hr2
    clear h0 hr2
    go_enter Tryz.func102, Tryz.ntmps102
    go_wp2_with fail
    rw [← hW0]
    clear hW0
    go_quiet (fail)
    refine exit_name ?_
    intro V hV
    have hh : V.heap = W0.heap := by rw [hV]; rfl
    have HA : Hid (At1 W0 V (And1 P w.heap.size) M most s) := ⟨HN.out.mr.same hh, by rw [hV]; exact kp_dN⟩
    have hX := HX.out.same hh
    clear hV hh n0 n1 n2 n3 n4 n5 n6 n7 zn
    obtain ⟨n0, n1, n2, n3, n4, n5, n6, n7, zn⟩ := HN.out.cellsX HA.out.kp
    obtain ⟨m0, m1, m2, m17, mlt, mfz⟩ := hX.cells
    obtain ⟨hgl, y5⟩ := hX.nodeC HGt.out
    clear mfz hX
    go_wp2_with fail
    refine (HP.out _ HA.out.mr).mono ?_
    rintro e w1 ⟨rfl, hm1, hk1⟩
    go_wp2_with fail
    go_ret
    exact HN.out.post hm1 (HA.out.kp.trans hk1) rfl
  have e0 := eq_f h0
  rw [if_neg h0] at hr2
  by_cases h1 : y.sort = 1
  · have e1 := eq_t h1
    rw [if_pos h1] at hr2
    obtain ⟨hinv, ha, hb, _, _⟩ := HInv.out
    obtain ⟨r1, hr1⟩ : ∃ r, leM most s (k : Int) (q : Int) 0 = r := ⟨_, rfl⟩
    have ho1 := le_out (most := most) hinv hm ha hb 0
    rw [hr1] at ho1
    obtain ⟨r2, hr3⟩ : ∃ r, leM most r1.1 (q : Int) (k : Int) 0 = r := ⟨_, rfl⟩
    have ho2 := le_out (most := most) ho1.inv hm (hb.up ho1.pre) (ha.up ho1.pre) 0
    rw [hr3] at ho2
    have hr4 : putM most r2.1 (two2 2 r1.2 r2.2 0) = r := by rw [← hr2]; unfold eqI; rw [hr1, hr3]
    have HL1 : Hid (∀ V, MkR V (And1 P w.heap.size) M most s → Calls Tryz.prog 145 #[.pointer (some ⟨M, 0, none⟩), .int .i64 k, .int .i64 q, .int .i64 0] V (MkPost (And1 P w.heap.size) M most V r1)) := fun V hv => le_any _ M most s k q 0 r1 V hv hm ha hb z64 hr1
    have HL2 : Hid (∀ V, MkR V (And1 P w.heap.size) M most r1.1 → Calls Tryz.prog 145 #[.pointer (some ⟨M, 0, none⟩), .int .i64 q, .int .i64 k, .int .i64 0] V (MkPost (And1 P w.heap.size) M most V r2)) := fun V hv => le_any _ M most r1.1 q k 0 r2 V hv hm (hb.up ho1.pre) (ha.up ho1.pre) z64 hr3
    have HNd : Hid (∀ (V : World) (B : Nat) (ty : TypeId), V.heap[B]? = some (.cells #[.int .i64 r1.2, .int .i64 r2.2] ty (0, 0)) → Calls Tryz.prog 144 #[.int .i8 2, .slice (some ⟨B, 0, none⟩) 2 2] V fun e w' => e = .returned (.agg #[.int .i8 2, .int .i8 2, .int .i64 r1.2, .int .i64 r2.2, .int .i64 0, .int .i64 0, .int .i64 0, .int .i64 0]) ∧ Below V.heap.size V w') := fun V B ty hx => node2_any 2 r1.2 r2.2 B ty V hx
    have HP : Hid (∀ V, MkR V (And1 P w.heap.size) M most r2.1 → Calls Tryz.prog 98 #[.pointer (some ⟨M, 0, none⟩), .agg #[.int .i8 2, .int .i8 2, .int .i64 r1.2, .int .i64 r2.2, .int .i64 0, .int .i64 0, .int .i64 0, .int .i64 0]] V (MkPost (And1 P w.heap.size) M most V r)) := fun V hv =>
      put_any _ M most r2.1 (two2 2 r1.2 r2.2 0) r V hv hm (ok_two (i8_lit (by decide)) (ho1.pl.i64 ho1.inv.len) (ho2.pl.i64 ho2.inv.len) z64) (fun _ => st_two (.inl ⟨by decide, rfl⟩) (ho1.pl.up ho2.pre) ho2.pl) hr4
    clear h0 h1 hr2 hr1 hr3 hr4 ho1 ho2 hinv ha hb
    go_enter Tryz.func102, Tryz.ntmps102
    go_wp2_with fail
    rw [← hW0]
    clear hW0
    go_quiet (fail)
    refine exit_name ?_
    intro V hV
    have hh : V.heap = W0.heap := by rw [hV]; rfl
    have HA : Hid (At1 W0 V (And1 P w.heap.size) M most s) := ⟨HN.out.mr.same hh, by rw [hV]; exact kp_dN⟩
    have hX := HX.out.same hh
    clear hV hh n0 n1 n2 n3 n4 n5 n6 n7 zn
    obtain ⟨n0, n1, n2, n3, n4, n5, n6, n7, zn⟩ := HN.out.cellsX HA.out.kp
    obtain ⟨m0, m1, m2, m17, mlt, mfz⟩ := hX.cells
    obtain ⟨hgl, y5⟩ := hX.nodeC HGt.out
    clear mfz hX
    go_wp2_with fail
    refine (HL1.out _ HA.out.mr).mono ?_
    rintro e w1 ⟨rfl, hm1, hk1⟩
    have HA1 : Hid (At1 W0 w1 (And1 P w.heap.size) M most r1.1) := HA.out.step hm1 hk1
    clear hm1 hk1 n0 n1 n2 n3 n4 n5 n6 n7 zn m0 m1 m2 m17 mlt hgl y5
    go_wp2_with fail
    refine (HL2.out _ HA1.out.mr).mono ?_
    rintro e w2 ⟨rfl, hm2, hk2⟩
    have HA2 : Hid (At1 W0 w2 (And1 P w.heap.size) M most r2.1) := HA1.out.step hm2 hk2
    clear hm2 hk2
    go_wp2_with fail
    refine (HNd.out _ _ _ (heap_alloc_new w2 _)).mono ?_
    rintro e w3 ⟨rfl, hb3⟩
    have HA3 : Hid (At1 W0 w3 (And1 P w.heap.size) M most r2.1) := (HA2.out.below ((Below.refl _ w2).alloc (Nat.le_refl _) _)).below hb3
    clear hb3
    go_wp2_with fail
    refine (HP.out _ HA3.out.mr).mono ?_
    rintro e w4 ⟨rfl, hm4, hk4⟩
    go_wp2_with fail
    go_ret
    exact HN.out.post hm4 (HA3.out.kp.trans hk4) rfl
  have e1 := eq_f h1
  rw [if_neg h1] at hr2
  by_cases hkq : (k : Int) = (q : Int)
  · have e2 := eq_t hkq
    rw [if_pos hkq] at hr2
    subst hr2
    clear h0 h1 hkq
    go_enter Tryz.func102, Tryz.ntmps102
    go_wp2_with fail
    rw [← hW0]
    clear hW0
    go_quiet (fail)
    refine exit_name ?_
    intro V hV
    have hh : V.heap = W0.heap := by rw [hV]; rfl
    have HA : Hid (At1 W0 V (And1 P w.heap.size) M most s) := ⟨HN.out.mr.same hh, by rw [hV]; exact kp_dN⟩
    have hX := HX.out.same hh
    clear hV hh n0 n1 n2 n3 n4 n5 n6 n7 zn
    obtain ⟨n0, n1, n2, n3, n4, n5, n6, n7, zn⟩ := HN.out.cellsX HA.out.kp
    obtain ⟨m0, m1, m2, m17, mlt, mfz⟩ := hX.cells
    obtain ⟨hgl, y5⟩ := hX.nodeC HGt.out
    clear mfz hX
    go_wp2_with fail
    go_ret
    exact HN.out.post HA.out.mr HA.out.kp rfl
  have e2 := eq_f hkq
  rw [if_neg hkq] at hr2
  obtain ⟨hinv, ha, hb, _, _⟩ := HInv.out
  have h64a := ha.i64 hinv.len
  have h64b := hb.i64 hinv.len
  by_cases hle : (k : Int) ≤ (q : Int)
  · rw [Int.min_eq_left hle, Int.max_eq_right hle] at hr2
    have HNd : Hid (∀ (V : World) (B : Nat) (ty : TypeId), V.heap[B]? = some (.cells #[.int .i64 k, .int .i64 q] ty (0, 0)) → Calls Tryz.prog 144 #[.int .i8 6, .slice (some ⟨B, 0, none⟩) 2 2] V fun e w' => e = .returned (.agg #[.int .i8 6, .int .i8 2, .int .i64 k, .int .i64 q, .int .i64 0, .int .i64 0, .int .i64 0, .int .i64 0]) ∧ Below V.heap.size V w') := fun V B ty hx => node2_any 6 k q B ty V hx
    have HP : Hid (∀ V, MkR V (And1 P w.heap.size) M most s → Calls Tryz.prog 98 #[.pointer (some ⟨M, 0, none⟩), .agg #[.int .i8 6, .int .i8 2, .int .i64 k, .int .i64 q, .int .i64 0, .int .i64 0, .int .i64 0, .int .i64 0]] V (MkPost (And1 P w.heap.size) M most V r)) := fun V hv =>
      put_any _ M most s (two2 6 k q 0) r V hv hm (ok_two (i8_lit (by decide)) h64a h64b z64) (fun _ => st_two (.inl ⟨by decide, rfl⟩) ha hb) hr2
    have hmin : min (k : Int) (q : Int) = (k : Int) := by omega
    have hmax : max (k : Int) (q : Int) = (q : Int) := by omega
    have hlt : (k : Int) < (q : Int) := by omega
    clear h0 h1 hr2 hinv ha hb h64a h64b hkq
    go_enter Tryz.func102, Tryz.ntmps102
    go_wp2_with fail
    rw [← hW0]
    clear hW0
    go_quiet (fail)
    refine exit_name ?_
    intro V hV
    have hh : V.heap = W0.heap := by rw [hV]; rfl
    have HA : Hid (At1 W0 V (And1 P w.heap.size) M most s) := ⟨HN.out.mr.same hh, by rw [hV]; exact kp_dN⟩
    have hX := HX.out.same hh
    clear hV hh n0 n1 n2 n3 n4 n5 n6 n7 zn
    obtain ⟨n0, n1, n2, n3, n4, n5, n6, n7, zn⟩ := HN.out.cellsX HA.out.kp
    obtain ⟨m0, m1, m2, m17, mlt, mfz⟩ := hX.cells
    obtain ⟨hgl, y5⟩ := hX.nodeC HGt.out
    clear mfz hX
    go_wp2_with fail
    all_goals first | (exfalso; omega) | skip
    rename_i hcmp
    refine (HNd.out _ _ _ (heap_alloc_new V _)).mono ?_
    rintro e w1 ⟨rfl, hb1⟩
    have HA1 : Hid (At1 W0 w1 (And1 P w.heap.size) M most s) := (HA.out.below ((Below.refl _ V).alloc (Nat.le_refl _) _)).below hb1
    clear hb1
    go_wp2_with fail
    refine (HP.out _ HA1.out.mr).mono ?_
    rintro e w2 ⟨rfl, hm2, hk2⟩
    go_wp2_with fail
    go_ret
    exact HN.out.post hm2 (HA1.out.kp.trans hk2) rfl
  · have hle' : (q : Int) ≤ (k : Int) := by omega
    rw [Int.min_eq_right hle', Int.max_eq_left hle'] at hr2
    have HNd : Hid (∀ (V : World) (B : Nat) (ty : TypeId), V.heap[B]? = some (.cells #[.int .i64 q, .int .i64 k] ty (0, 0)) → Calls Tryz.prog 144 #[.int .i8 6, .slice (some ⟨B, 0, none⟩) 2 2] V fun e w' => e = .returned (.agg #[.int .i8 6, .int .i8 2, .int .i64 q, .int .i64 k, .int .i64 0, .int .i64 0, .int .i64 0, .int .i64 0]) ∧ Below V.heap.size V w') := fun V B ty hx => node2_any 6 q k B ty V hx
    have HP : Hid (∀ V, MkR V (And1 P w.heap.size) M most s → Calls Tryz.prog 98 #[.pointer (some ⟨M, 0, none⟩), .agg #[.int .i8 6, .int .i8 2, .int .i64 q, .int .i64 k, .int .i64 0, .int .i64 0, .int .i64 0, .int .i64 0]] V (MkPost (And1 P w.heap.size) M most V r)) := fun V hv =>
      put_any _ M most s (two2 6 q k 0) r V hv hm (ok_two (i8_lit (by decide)) h64b h64a z64) (fun _ => st_two (.inl ⟨by decide, rfl⟩) hb ha) hr2
    have hmin : min (k : Int) (q : Int) = (q : Int) := by omega
    have hmax : max (k : Int) (q : Int) = (k : Int) := by omega
    have hlt : (q : Int) < (k : Int) := by omega
    clear h0 h1 hr2 hinv ha hb h64a h64b hkq
    go_enter Tryz.func102, Tryz.ntmps102
    go_wp2_with fail
    rw [← hW0]
    clear hW0
    go_quiet (fail)
    refine exit_name ?_
    intro V hV
    have hh : V.heap = W0.heap := by rw [hV]; rfl
    have HA : Hid (At1 W0 V (And1 P w.heap.size) M most s) := ⟨HN.out.mr.same hh, by rw [hV]; exact kp_dN⟩
    have hX := HX.out.same hh
    clear hV hh n0 n1 n2 n3 n4 n5 n6 n7 zn
    obtain ⟨n0, n1, n2, n3, n4, n5, n6, n7, zn⟩ := HN.out.cellsX HA.out.kp
    obtain ⟨m0, m1, m2, m17, mlt, mfz⟩ := hX.cells
    obtain ⟨hgl, y5⟩ := hX.nodeC HGt.out
    clear mfz hX
    go_wp2_with fail
    all_goals first | (exfalso; omega) | skip
    rename_i hcmp
    refine (HNd.out _ _ _ (heap_alloc_new V _)).mono ?_
    rintro e w1 ⟨rfl, hb1⟩
    have HA1 : Hid (At1 W0 w1 (And1 P w.heap.size) M most s) := (HA.out.below ((Below.refl _ V).alloc (Nat.le_refl _) _)).below hb1
    clear hb1
    go_wp2_with fail
    refine (HP.out _ HA1.out.mr).mono ?_
    rintro e w2 ⟨rfl, hm2, hk2⟩
    go_wp2_with fail
    go_ret
    exact HN.out.post hm2 (HA1.out.kp.trans hk2) rfl
end Go.Proofs.YtfbjgadgfjnamaaGreatDoor.Tm
