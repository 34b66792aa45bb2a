/- Core: ite. -/
import Derived.Test.YtfbjgadgfjnamaaGreatDoorZCoI
namespace Go.Proofs.YtfbjgadgfjnamaaGreatDoor.Tm
open Go.RowKit
set_option linter.unusedVariables false
set_option maxRecDepth 100000 in
set_option maxHeartbeats 1000000 in
theorem xor_any (P : Nat → Prop) (M : Nat) (most : Int) (s : MkS) (n : NodeA) (r : MkS × Int) (w : World) (h : MkR w P M most s) (hm : most ≤ 2000) (ha : PlA s n.a0) (hb : PlA s n.a1) (hr : xorM most s n = r) :
    Calls Tryz.prog 100 #[.pointer (some ⟨M, 0, none⟩), .agg #[.int .i8 n.op, .int .i8 n.len, .int .i64 n.a0, .int .i64 n.a1, .int .i64 n.a2, .int .i64 n.sort, .int .i64 n.fn, .int .i64 n.num]] w (MkPost P M most w r) := by
  obtain ⟨W0, hW0⟩ : ∃ W0, W0 = w.alloc (.cells #[.int .i8 n.op, .int .i8 n.len, .int .i64 n.a0, .int .i64 n.a1, .int .i64 n.a2, .int .i64 n.sort, .int .i64 n.fn, .int .i64 n.num] 47) := ⟨_, rfl⟩
  have HN : Hid (NdB w W0 P M most s n) := by show NdB _ _ _ _ _ _ _; rw [hW0]; exact ndB h n
  obtain ⟨n0, n1, n2, n3, n4, n5, n6, n7, zn⟩ := HN.out.cells (Kp.refl _ _)
  have hinv := h.inv
  obtain ⟨r1, hr1⟩ : ∃ r, eqM most s (two2 6 n.a0 n.a1 0) = r := ⟨_, rfl⟩
  have ho1 := eq2_out (most := most) hinv hm ha hb
  rw [hr1] at ho1
  have hr2 : negM most r1.1 r1.2 = r := by rw [← hr]; unfold xorM; rw [hr1]
  have HEq : Hid (∀ V, MkR V (And1 P w.heap.size) M most s → Calls Tryz.prog 102 #[.pointer (some ⟨M, 0, none⟩), .agg #[.int .i8 6, .int .i8 2, .int .i64 n.a0, .int .i64 n.a1, .int .i64 0, .int .i64 0, .int .i64 0, .int .i64 0]] V (MkPost (And1 P w.heap.size) M most V r1)) := fun V hv =>
    eq_any _ M most s (two2 6 n.a0 n.a1 0) r1 V hv hm (ok_two (i8_lit (by decide)) (ha.i64 hinv.len) (hb.i64 hinv.len) z64) ha hb (fun _ => st_two (.inl ⟨by decide, rfl⟩) ha hb) hr1
  have HNeg : Hid (∀ V, MkR V (And1 P w.heap.size) M most r1.1 → Calls Tryz.prog 143 #[.pointer (some ⟨M, 0, none⟩), .int .i64 r1.2] V (MkPost (And1 P w.heap.size) M most V r)) := fun V hv => neg_any _ M most r1.1 r1.2 r V hv hm ho1.pl hr2
  obtain ⟨W1, hW1⟩ : ∃ W1, W1 = W0.alloc (.cells #[.int .i64 n.a0, .int .i64 n.a1] 3) := ⟨_, rfl⟩
  have hb1 : Below W0.heap.size W0 W1 := by rw [hW1]; exact (Below.refl _ W0).alloc (Nat.le_refl _) _
  have HA1 : Hid (At1 W0 W1 (And1 P w.heap.size) M most s) := ⟨HN.out.mr.below hb1, (HN.out.mr.news hb1).2⟩
  have hsz : W0.heap.size = w.heap.size + 1 := by rw [hW0]; simp
  have HNd : Hid (Calls Tryz.prog 144 #[.int .i8 6, .slice (some ⟨w.heap.size + 1, 0, none⟩) 2 2] W1 fun e w' => e = .returned (.agg #[.int .i8 6, .int .i8 2, .int .i64 n.a0, .int .i64 n.a1, .int .i64 0, .int .i64 0, .int .i64 0, .int .i64 0]) ∧ Below W1.heap.size W1 w') := node2_any 6 n.a0 n.a1 (w.heap.size + 1) _ W1 (by rw [hW1, ← hsz]; exact heap_alloc_new W0 _)
  clear h ha hb hr hr1 hr2 ho1 hinv hb1 hsz
  go_enter Tryz.func100, Tryz.ntmps100
  go_wp2_with fail
  rw [← hW0]
  clear hW0
  rw [← hW1]
  clear hW1
  refine HNd.out.mono ?_
  rintro e w1 ⟨rfl, hb1⟩
  have HA2 : Hid (At1 W0 w1 (And1 P w.heap.size) M most s) := HA1.out.below hb1
  clear hb1 n0 n1 n2 n3 n4 n5 n6 n7 zn
  go_wp2_with fail
  refine (HEq.out _ HA2.out.mr).mono ?_
  rintro e w2 ⟨rfl, hm2, hk2⟩
  have HA3 : Hid (At1 W0 w2 (And1 P w.heap.size) M most r1.1) := HA2.out.step hm2 hk2
  clear hm2 hk2
  go_wp2_with fail
  refine (HNeg.out _ HA3.out.mr).mono ?_
  rintro e w3 ⟨rfl, hm3, hk3⟩
  go_wp2_with fail
  go_ret
  exact HN.out.post hm3 (HA3.out.kp.trans hk3) rfl
end Go.Proofs.YtfbjgadgfjnamaaGreatDoor.Tm
namespace Go.Proofs.YtfbjgadgfjnamaaGreatDoor.Tm
open Go.RowKit
set_option linter.unusedVariables false
theorem idx0 (x y : Value) (w : World) : (Instr.index 193 (.agg #[x, y]) (.int .i64 0)).run Tryz.prog w = .ok x w := by kernel_rfl
theorem idx1 (x y : Value) (w : World) : (Instr.index 193 (.agg #[x, y]) (.int .i64 1)).run Tryz.prog w = .ok y w := by kernel_rfl
/-- A maker behind an ite, when so many of its branches have been looked at. -/
def itS (s1 s2 s3 : MkS) (k : Nat) : MkS := if k = 0 then s1 else if k = 1 then s2 else s3
set_option maxRecDepth 100000 in
set_option maxHeartbeats 4000000 in
theorem ite_any (P : Nat → Prop) (M : Nat) (most : Int) (s : MkS) (n : NodeA) (r : MkS × Int) (w : World) (h : MkR w P M most s) (hm : most ≤ 2000) (hn : NodeOk n) (hb : PlA s n.a1) (hc : PlA s n.a2) (hs : s.e = 0 → standsB n s.l.length = true) (hr : iteM most s n = r) :
    Calls Tryz.prog 103 #[.pointer (some ⟨M, 0, none⟩), .agg #[.int .i8 n.op, .int .i8 n.len, .int .i64 n.a0, .int .i64 n.a1, .int .i64 n.a2, .int .i64 n.sort, .int .i64 n.fn, .int .i64 n.num]] w (MkPost P M most w r) := by
  obtain ⟨W0, hW0⟩ : ∃ W0, W0 = w.alloc (.cells #[.int .i8 n.op, .int .i8 n.len, .int .i64 n.a0, .int .i64 n.a1, .int .i64 n.a2, .int .i64 n.sort, .int .i64 n.fn, .int .i64 n.num] 47) := ⟨_, rfl⟩
  have HN : Hid (NdB w W0 P M most s n) := by show NdB _ _ _ _ _ _ _; rw [hW0]; exact ndB h n
  obtain ⟨n0, n1, n2, n3, n4, n5, n6, n7, zn⟩ := HN.out.cells (Kp.refl _ _)
  have hinv := h.inv
  by_cases hbc : n.a1 = n.a2
  · have e0 := eq_t hbc
    obtain rfl : r = (s, n.a1) := by rw [← hr]; unfold iteM; rw [if_pos hbc]
    clear h hb hc hr hbc hinv hn hs
    go_enter Tryz.func103, Tryz.ntmps103
    go_wp2_with fail
    rw [← hW0]
    clear hW0
    go_quiet (fail)
    go_wp2_with fail
    go_ret
    exact HN.out.post (HN.out.mr.same (w' := W0.drewN nq) rfl) kp_dN rfl
  have e0 := eq_f hbc
  obtain ⟨r1, hr1⟩ : ∃ r, putM most s n = r := ⟨_, rfl⟩
  have ho1 := put_out (most := most) hinv hm hn hs
  rw [hr1] at ho1
  have hpb := hb.up ho1.pre
  have hpc := hc.up ho1.pre
  obtain ⟨s2, hs2⟩ : ∃ r, behM most r1.1 n.sort r1.2 n.a1 = r := ⟨_, rfl⟩
  have ho2 := beh_out (most := most) ho1.inv hm ho1.pl hpb n.sort
  rw [hs2] at ho2
  have hpc2 := hpc.up ho2.1
  have hp2 := ho1.pl.up ho2.1
  obtain ⟨s3, hs3⟩ : ∃ r, behM most s2 n.sort r1.2 n.a2 = r := ⟨_, rfl⟩
  have hr2 : r = (s3, r1.2) := by rw [← hr]; unfold iteM; rw [if_neg hbc, hr1, hs2, hs3]
  subst hr2
  have HPut : Hid (∀ V, MkR V (And1 P w.heap.size) M most s → Calls Tryz.prog 98 #[.pointer (some ⟨M, 0, none⟩), .agg #[.int .i8 n.op, .int .i8 n.len, .int .i64 n.a0, .int .i64 n.a1, .int .i64 n.a2, .int .i64 n.sort, .int .i64 n.fn, .int .i64 n.num]] V (MkPost (And1 P w.heap.size) M most V r1)) := fun V hv => put_any _ M most s n r1 V hv hm hn hs hr1
  have HLe : Hid (∀ V s' i j r, MkR V (And1 P w.heap.size) M most s' → PlA s' i → PlA s' j → leM most s' i j 0 = r → Calls Tryz.prog 145 #[.pointer (some ⟨M, 0, none⟩), .int .i64 i, .int .i64 j, .int .i64 0] V (MkPost (And1 P w.heap.size) M most V r)) := fun V s' i j r hv hi hj hr => le_any _ M most s' i j 0 r V hv hm hi hj z64 hr
  have HEq : Hid (∀ V s' i j r, MkR V (And1 P w.heap.size) M most s' → PlA s' i → PlA s' j → eqM most s' (two2 6 i j 0) = r → Calls Tryz.prog 102 #[.pointer (some ⟨M, 0, none⟩), .agg #[.int .i8 6, .int .i8 2, .int .i64 i, .int .i64 j, .int .i64 0, .int .i64 0, .int .i64 0, .int .i64 0]] V (MkPost (And1 P w.heap.size) M most V r)) := fun V s' i j r hv hi hj hr =>
    eq_any _ M most s' (two2 6 i j 0) r V hv hm (ok_two (i8_lit (by decide)) (hi.i64 hv.inv.len) (hj.i64 hv.inv.len) z64) hi hj (fun _ => st_two (.inl ⟨by decide, rfl⟩) hi hj) hr
  have HNd : Hid (∀ i j (V : World) (B : Nat) (ty : TypeId), V.heap[B]? = some (.cells #[.int .i64 i, .int .i64 j] ty (0, 0)) → Calls Tryz.prog 144 #[.int .i8 6, .slice (some ⟨B, 0, none⟩) 2 2] V fun e w' => e = .returned (.agg #[.int .i8 6, .int .i8 2, .int .i64 i, .int .i64 j, .int .i64 0, .int .i64 0, .int .i64 0, .int .i64 0]) ∧ Below V.heap.size V w') := fun i j V B ty hx => node2_any 6 i j B ty V hx
  have HI1 := Lib.hid (And.intro ho1.pl (And.intro hpb ho1.inv))
  have HI2 := Lib.hid (And.intro hp2 (And.intro hpc2 ho2.2))
  have HS2 := Lib.hid hs2
  have HS3 := Lib.hid hs3
  clear h hb hc hr hbc hinv hn hs hr1 ho1 hpb hpc hs2 ho2 hpc2 hp2 hs3
  have x0 := idx0
  have x1 := idx1
  go_enter Tryz.func103, Tryz.ntmps103
  go_wp2_with fail
  rw [← hW0]
  clear hW0
  go_quiet (fail)
  refine exit_name ?_
  intro V hV
  have HA : Hid (At1 W0 V (And1 P w.heap.size) M most s) := ⟨HN.out.mr.same (by rw [hV]; rfl), by rw [hV]; exact kp_dN⟩
  clear hV n0 n1 n2 n3 n4 n5 n6 n7 zn
  obtain ⟨n0, n1, n2, n3, n4, n5, n6, n7, zn⟩ := HN.out.cells HA.out.kp
  go_wp2_with fail
  refine (HPut.out _ HA.out.mr).mono ?_
  rintro e w1 ⟨rfl, hm1, hk1⟩
  have HA1 : Hid (At1 W0 w1 (And1 P w.heap.size) M most r1.1) := HA.out.step hm1 hk1
  clear hm1 hk1 n0 n1 n2 n3 n4 n5 n6 n7 zn
  go_wp2_with fail
  go_loopw [26] (fun i wr => ∃ k : Nat, k ≤ 2 ∧ i = .int .i64 k ∧ Hid (At1 W0 wr (And1 P w.heap.size) M most (itS r1.1 s2 s3 k))) (fun i _ => 2 - (intOf i).toNat)
  case atStart => exact ⟨0, by omega, rfl, HA1⟩
  case round =>
    obtain ⟨k, hk, rfl, HB⟩ := hrel
    obtain ⟨n0, n1, n2, n3, n4, n5, n6, n7, zn⟩ := HN.out.cells HB.out.kp
    have hc : k = 0 ∨ k = 1 ∨ k = 2 := by omega
    rcases hc with rfl | rfl | rfl
    · have HB0 : Hid (At1 W0 wr (And1 P w.heap.size) M most r1.1) := HB.out
      clear HB
      by_cases h0 : n.sort = 0
      · have f0 := eq_t h0
        have hz : r1.1 = s2 := by have h := HS2.out; unfold behM at h; rw [if_pos h0] at h; exact h
        clear h0
        go_wp2_with fail
        go_roundw
        case rel => exact ⟨0 + 1, by omega, by go_num, by show At1 _ _ _ _ _ s2; rw [← hz]; exact HB0.out⟩
        case measure => first | (simp [intOf]; done) | (simp [intOf]; omega)
      have f0 := eq_f h0
      by_cases h1 : n.sort = 1
      · have f1 := eq_t h1
        have hz : (leM most (leM most r1.1 r1.2 n.a1 0).1 n.a1 r1.2 0).1 = s2 := by have h := HS2.out; unfold behM at h; rw [if_neg h0, if_pos h1] at h; exact h
        obtain ⟨q1, q2, q3⟩ := HI1.out
        have ho := le_out (most := most) q3 hm q1 q2 0
        obtain ⟨t1, ht1⟩ : ∃ t, leM most r1.1 r1.2 n.a1 0 = t := ⟨_, rfl⟩
        rw [ht1] at hz ho
        obtain ⟨t2, ht2⟩ : ∃ t, leM most t1.1 n.a1 r1.2 0 = t := ⟨_, rfl⟩
        rw [ht2] at hz
        have HC1 := Lib.hid (HLe.out wr r1.1 r1.2 n.a1 t1 HB0.out.mr q1 q2 ht1)
        have HC2 : Hid (∀ V, MkR V (And1 P w.heap.size) M most t1.1 → Calls Tryz.prog 145 #[.pointer (some ⟨M, 0, none⟩), .int .i64 n.a1, .int .i64 r1.2, .int .i64 0] V (MkPost (And1 P w.heap.size) M most V t2)) := fun V hv => HLe.out V t1.1 n.a1 r1.2 t2 hv (q2.up ho.pre) (q1.up ho.pre) ht2
        clear h0 h1 q1 q2 q3 ho ht1 ht2
        go_wp2_with fail
        refine HC1.out.mono ?_
        rintro e w2 ⟨rfl, hm2, hk2⟩
        have HB1 : Hid (At1 W0 w2 (And1 P w.heap.size) M most t1.1) := HB0.out.step hm2 hk2
        clear hm2 hk2 n0 n1 n2 n3 n4 n5 n6 n7 zn
        go_wp2_with fail
        refine (HC2.out _ HB1.out.mr).mono ?_
        rintro e w3 ⟨rfl, hm3, hk3⟩
        have HB2 : Hid (At1 W0 w3 (And1 P w.heap.size) M most s2) := by show At1 _ _ _ _ _ _; rw [← hz]; exact HB1.out.step hm3 hk3
        clear hm3 hk3 hz
        go_wp2_with fail
        go_roundw
        case rel => exact ⟨0 + 1, by omega, by go_num, HB2⟩
        case measure => first | (simp [intOf]; done) | (simp [intOf]; omega)
      have f1 := eq_f h1
      have hz : (eqM most r1.1 (two2 6 r1.2 n.a1 0)).1 = s2 := by have h := HS2.out; unfold behM at h; rw [if_neg h0, if_neg h1] at h; exact h
      obtain ⟨q1, q2, q3⟩ := HI1.out
      obtain ⟨t1, ht1⟩ : ∃ t, eqM most r1.1 (two2 6 r1.2 n.a1 0) = t := ⟨_, rfl⟩
      rw [ht1] at hz
      have HC1 : Hid (∀ V, MkR V (And1 P w.heap.size) M most r1.1 → Calls Tryz.prog 102 #[.pointer (some ⟨M, 0, none⟩), .agg #[.int .i8 6, .int .i8 2, .int .i64 r1.2, .int .i64 n.a1, .int .i64 0, .int .i64 0, .int .i64 0, .int .i64 0]] V (MkPost (And1 P w.heap.size) M most V t1)) := fun V hv => HEq.out V r1.1 r1.2 n.a1 t1 hv q1 q2 ht1
      clear h0 h1 q1 q2 q3 ht1
      go_wp2_with fail
      refine (HNd.out r1.2 n.a1 _ _ _ (heap_alloc_new wr _)).mono ?_
      rintro e w2 ⟨rfl, hb2⟩
      have HB1 : Hid (At1 W0 w2 (And1 P w.heap.size) M most r1.1) := (HB0.out.below ((Below.refl _ wr).alloc (Nat.le_refl _) _)).below hb2
      clear hb2 n0 n1 n2 n3 n4 n5 n6 n7 zn
      go_wp2_with fail
      refine (HC1.out _ HB1.out.mr).mono ?_
      rintro e w3 ⟨rfl, hm3, hk3⟩
      have HB2 : Hid (At1 W0 w3 (And1 P w.heap.size) M most s2) := by show At1 _ _ _ _ _ _; rw [← hz]; exact HB1.out.step hm3 hk3
      clear hm3 hk3 hz
      go_wp2_with fail
      go_roundw
      case rel => exact ⟨0 + 1, by omega, by go_num, HB2⟩
      case measure => first | (simp [intOf]; done) | (simp [intOf]; omega)
    · have HB0 : Hid (At1 W0 wr (And1 P w.heap.size) M most s2) := HB.out
      clear HB
      by_cases h0 : n.sort = 0
      · have f0 := eq_t h0
        have hz : s2 = s3 := by have h := HS3.out; unfold behM at h; rw [if_pos h0] at h; exact h
        clear h0
        go_wp2_with fail
        go_roundw
        case rel => exact ⟨1 + 1, by omega, by go_num, by show At1 _ _ _ _ _ s3; rw [← hz]; exact HB0.out⟩
        case measure => first | (simp [intOf]; done) | (simp [intOf]; omega)
      have f0 := eq_f h0
      by_cases h1 : n.sort = 1
      · have f1 := eq_t h1
        have hz : (leM most (leM most s2 r1.2 n.a2 0).1 n.a2 r1.2 0).1 = s3 := by have h := HS3.out; unfold behM at h; rw [if_neg h0, if_pos h1] at h; exact h
        obtain ⟨q1, q2, q3⟩ := HI2.out
        have ho := le_out (most := most) q3 hm q1 q2 0
        obtain ⟨t1, ht1⟩ : ∃ t, leM most s2 r1.2 n.a2 0 = t := ⟨_, rfl⟩
        rw [ht1] at hz ho
        obtain ⟨t2, ht2⟩ : ∃ t, leM most t1.1 n.a2 r1.2 0 = t := ⟨_, rfl⟩
        rw [ht2] at hz
        have HC1 := Lib.hid (HLe.out wr s2 r1.2 n.a2 t1 HB0.out.mr q1 q2 ht1)
        have HC2 : Hid (∀ V, MkR V (And1 P w.heap.size) M most t1.1 → Calls Tryz.prog 145 #[.pointer (some ⟨M, 0, none⟩), .int .i64 n.a2, .int .i64 r1.2, .int .i64 0] V (MkPost (And1 P w.heap.size) M most V t2)) := fun V hv => HLe.out V t1.1 n.a2 r1.2 t2 hv (q2.up ho.pre) (q1.up ho.pre) ht2
        clear h0 h1 q1 q2 q3 ho ht1 ht2
        go_wp2_with fail
        refine HC1.out.mono ?_
        rintro e w2 ⟨rfl, hm2, hk2⟩
        have HB1 : Hid (At1 W0 w2 (And1 P w.heap.size) M most t1.1) := HB0.out.step hm2 hk2
        clear hm2 hk2 n0 n1 n2 n3 n4 n5 n6 n7 zn
        go_wp2_with fail
        refine (HC2.out _ HB1.out.mr).mono ?_
        rintro e w3 ⟨rfl, hm3, hk3⟩
        have HB2 : Hid (At1 W0 w3 (And1 P w.heap.size) M most s3) := by show At1 _ _ _ _ _ _; rw [← hz]; exact HB1.out.step hm3 hk3
        clear hm3 hk3 hz
        go_wp2_with fail
        go_roundw
        case rel => exact ⟨1 + 1, by omega, by go_num, HB2⟩
        case measure => first | (simp [intOf]; done) | (simp [intOf]; omega)
      have f1 := eq_f h1
      have hz : (eqM most s2 (two2 6 r1.2 n.a2 0)).1 = s3 := by have h := HS3.out; unfold behM at h; rw [if_neg h0, if_neg h1] at h; exact h
      obtain ⟨q1, q2, q3⟩ := HI2.out
      obtain ⟨t1, ht1⟩ : ∃ t, eqM most s2 (two2 6 r1.2 n.a2 0) = t := ⟨_, rfl⟩
      rw [ht1] at hz
      have HC1 : Hid (∀ V, MkR V (And1 P w.heap.size) M most s2 → Calls Tryz.prog 102 #[.pointer (some ⟨M, 0, none⟩), .agg #[.int .i8 6, .int .i8 2, .int .i64 r1.2, .int .i64 n.a2, .int .i64 0, .int .i64 0, .int .i64 0, .int .i64 0]] V (MkPost (And1 P w.heap.size) M most V t1)) := fun V hv => HEq.out V s2 r1.2 n.a2 t1 hv q1 q2 ht1
      clear h0 h1 q1 q2 q3 ht1
      go_wp2_with fail
      refine (HNd.out r1.2 n.a2 _ _ _ (heap_alloc_new wr _)).mono ?_
      rintro e w2 ⟨rfl, hb2⟩
      have HB1 : Hid (At1 W0 w2 (And1 P w.heap.size) M most s2) := (HB0.out.below ((Below.refl _ wr).alloc (Nat.le_refl _) _)).below hb2
      clear hb2 n0 n1 n2 n3 n4 n5 n6 n7 zn
      go_wp2_with fail
      refine (HC1.out _ HB1.out.mr).mono ?_
      rintro e w3 ⟨rfl, hm3, hk3⟩
      have HB2 : Hid (At1 W0 w3 (And1 P w.heap.size) M most s3) := by show At1 _ _ _ _ _ _; rw [← hz]; exact HB1.out.step hm3 hk3
      clear hm3 hk3 hz
      go_wp2_with fail
      go_roundw
      case rel => exact ⟨1 + 1, by omega, by go_num, HB2⟩
      case measure => first | (simp [intOf]; done) | (simp [intOf]; omega)
    · have HB0 : Hid (At1 W0 wr (And1 P w.heap.size) M most s3) := HB.out
      go_wp2_with fail
      go_ret
      exact HN.out.post HB0.out.mr HB0.out.kp rfl
end Go.Proofs.YtfbjgadgfjnamaaGreatDoor.Tm
