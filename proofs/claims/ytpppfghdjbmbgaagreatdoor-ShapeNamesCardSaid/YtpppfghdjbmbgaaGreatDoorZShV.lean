/- ShapeNames. -/
import Derived.Test.YtpppfghdjbmbgaaGreatDoorZShS
import Derived.Test.YtpppfghdjbmbgaaGreatDoorZShW
import Derived.Test.YtpppfghdjbmbgaaGreatDoorZDaU
namespace Go.Proofs.YtpppfghdjbmbgaaGreatDoor.Tm
open Go.RowKit
set_option linter.unusedVariables false
theorem flat_succ (c : List NodeA) (k : Nat) : ((List.range (k + 1)).flatMap (clsM c)).length = ((List.range k).flatMap (clsM c)).length + (clsM c k).length := by
  rw [List.range_succ, List.flatMap_append, List.length_append]
  simp
theorem flat_le (c : List NodeA) (k : Nat) : ((List.range k).flatMap (clsM c)).length ≤ 4 * k := by
  have := flat_len c (List.range k)
  rw [List.length_range] at this
  exact this
/-- What the document's Of makes is a core table. -/
theorem RCore_any (l : List NodeA) (hlen : l.length ≤ 3000) (a : Option Addr) (cp : Nat) (xs : List Int) (rb : Option Addr) (rc : Nat) (w : World) (hA : TabR w l a cp) (hX : IntsR w xs rb rc) (hxl : xs.length ≤ 3000) :
    Calls Tryz.prog 10 #[.agg #[.slice a l.length cp], .slice rb xs.length rc, .int .i64 2000] w fun e w' => Below w.heap.size w w' ∧ ((∃ (c : List NodeA) (ac : Option Addr) (cc : Nat) (b : Option Addr) (d : Nat), e = .returned (.tuple #[.agg #[.slice ac c.length cc], .slice b xs.length d, .int .i64 0]) ∧ Cl c ∧ TabR w' c ac cc) ∨ (∃ er : Int, ¬ er = 0 ∧ e = .returned (.tuple #[.agg #[.slice none 0 0], .slice none 0 0, .int .i64 er]))) := by
  refine (ROf12_any (Q := QC l) (most := 2000) (l := l) (fun hm hw => QC_step (by omega) hA.ok (fun k n hk => (ok_at (mayT_ok hm).2 hk).1) hw) (fun s im h => h.1) (QC_new l) (by omega) hlen a cp xs rb rc w hA hX hxl).mono ?_
  rintro e w' ⟨hb, ⟨s, im, ac, cc, b, d, rfl, hw, ht, _⟩ | h⟩
  · refine ⟨hb, .inl ⟨s.l, ac, cc, b, d, rfl, cl_of hw.inv hw.q.1.1 hw.q.1.2.1 hw.q.2, ?_⟩⟩
    first | exact ht | exact ht.1 | exact ht.tab | exact ht.r
  · exact ⟨hb, .inr h⟩
set_option maxRecDepth 100000 in
set_option maxHeartbeats 16000000 in
theorem ShapeNames_c (w : World) (l : List NodeA) (ad : Option Addr) (cp : Nat) (hA : TabR w l ad cp) (xs : List Int) (b1 : Option Addr) (d1 : Nat) (hXs : IntsR w xs b1 d1) (hG : GT w) :
    Calls Tryz.prog 5 #[.agg #[.slice ad l.length cp], .slice b1 xs.length d1] w fun e w' => e = .returned (.bool true) ∧ Below w.heap.size w w' := by
  have hlm : l.length ≤ 9223372036854775807 := by have h1 := hA.le; have h2 := hA.cap; simp only [maxLen] at h2; omega
  have hx2 : xs.length ≤ 9223372036854775807 := by have h1 := hXs.le; have h2 := hXs.cap; simp only [maxLen] at h2; omega
  obtain ⟨W0, hW0⟩ : ∃ W0, W0 = w.alloc (.cells #[.slice ad l.length cp] 33) := ⟨_, rfl⟩
  obtain ⟨hB0, hX⟩ := box_table hW0
  have HB0 := Lib.hid hB0
  have HK : Hid (∀ V, Below W0.heap.size W0 V → V.cell? ⟨w.heap.size, 0, none⟩ = some (.slice ad l.length cp) ∧ w.heap.size < V.heap.size) := fun V hV => ⟨(cell_of_row _ _ 0 _ _ _ (hX V hV).1).trans rfl, (hX V hV).2⟩
  have HU : Hid (∀ V, Below W0.heap.size W0 V → Below w.heap.size w V) := fun V hV => hB0.trans (hV.mono hB0.size)
  have HWk : Hid (∀ V, Below W0.heap.size W0 V → Calls Tryz.prog 9 #[] V fun e w' => e = .returned (.bool true) ∧ Hid (Below W0.heap.size W0 w')) := fun V hV => (swakes_any V ((hG.below hB0).below hV)).mono fun e w' ⟨h1, h2⟩ => ⟨h1, ball hV h2⟩
  have HGt : Hid (∀ q, decide (300 < l.length) = q → ∀ V, Below W0.heap.size W0 V → Calls Tryz.prog 8 #[.agg #[.slice ad l.length cp]] V fun e w' => e = .returned (.bool q) ∧ Hid (Below W0.heap.size W0 w')) := fun q hq V hV => (Great_any l ad cp q V hlm hq).mono fun e w' ⟨h1, h2⟩ => ⟨h1, ball hV h2⟩
  have HOf : Hid (l.length ≤ 300 → xs.length ≤ 100 → ∀ V, Below W0.heap.size W0 V → Calls Tryz.prog 10 #[.agg #[.slice ad l.length cp], .slice b1 xs.length d1, .int .i64 2000] V fun e w' => Hid (Below W0.heap.size W0 w') ∧ ((∃ (c : List NodeA) (ac : Option Addr) (cc : Nat) (b : Option Addr) (d : Nat), e = .returned (.tuple #[.agg #[.slice ac c.length cc], .slice b xs.length d, .int .i64 0]) ∧ Hid (Cl c) ∧ Hid (TabR w' c ac cc)) ∨ (∃ er : Int, ¬ er = 0 ∧ e = .returned (.tuple #[.agg #[.slice none 0 0], .slice none 0 0, .int .i64 er])))) := fun h1 h2 V hV => (RCore_any l (by omega) ad cp xs b1 d1 V ((hA.below hB0).below hV) ((hXs.below hB0).below hV) (by omega)).mono fun e w' ⟨g1, g2⟩ => ⟨ball hV g1, g2⟩
  have HGT : Hid (∀ V, Below W0.heap.size W0 V → GT V) := fun V hV => (hG.below hB0).below hV
  obtain ⟨q, hq⟩ : ∃ q, decide (300 < l.length) = q := ⟨_, rfl⟩
  have HGq := Lib.hid (HGt.out q hq)
  obtain ⟨x0, xz⟩ := HK.out _ (Below.refl _ W0)
  have HQ := Lib.hid hq
  have hA0 := hW0.symm
  clear hW0 hX hA hXs hG hB0 HGt hq
  go_enter Tryz.func5, Tryz.ntmps5
  cases q with
  | true =>
    go_wp2_with (first
      | (go_at_call 8; refine (HGq.out _ (Below.refl _ _)).mono ?_; rintro e w1 ⟨rfl, HB1⟩)
      | (go_at_call 9; refine (HWk.out _ HB1.out).mono ?_; rintro e w2 ⟨rfl, HB2⟩))
    go_ret
    exact ⟨rfl, HU.out _ HB2.out⟩
  | false =>
    by_cases hx : 100 < xs.length
    · have hxi : (100 : Int) < (xs.length : Int) := by omega
      go_wp2_with (first
        | (go_at_call 8; refine (HGq.out _ (Below.refl _ _)).mono ?_; rintro e w1 ⟨rfl, HB1⟩)
        | (go_at_call 9; refine (HWk.out _ HB1.out).mono ?_; rintro e w2 ⟨rfl, HB2⟩))
      go_ret
      exact ⟨rfl, HU.out _ HB2.out⟩
    · have hxi : ¬ (100 : Int) < (xs.length : Int) := by omega
      have hl3 : l.length ≤ 300 := by have := of_decide_eq_false HQ.out; omega
      have HOq := Lib.hid (HOf.out hl3 (by omega))
      go_wp2_with (first
        | (go_at_call 8; refine (HGq.out _ (Below.refl _ _)).mono ?_; rintro e w1 ⟨rfl, HB1⟩; obtain ⟨y0, yz⟩ := HK.out _ HB1.out))
      refine (HOq.out _ HB1.out).mono ?_
      rintro e w2 ⟨HB2, ⟨c, a, ca, b, d, rfl, HC, HT⟩ | ⟨er, her, rfl⟩⟩
      · obtain ⟨W3, hW3⟩ : ∃ W3, W3 = w2.alloc (.cells #[.slice a c.length ca] 33) := ⟨_, rfl⟩
        obtain ⟨hb3, hX3⟩ := box_table hW3
        have HB3 : Hid (Below W0.heap.size W0 W3) := ball HB2.out hb3
        have HK3 : Hid (∀ V, Below W3.heap.size W3 V → V.cell? ⟨w2.heap.size, 0, none⟩ = some (.slice a c.length ca) ∧ w2.heap.size < V.heap.size) := fun V hV => ⟨(cell_of_row _ _ 0 _ _ _ (hX3 V hV).1).trans rfl, (hX3 V hV).2⟩
        have HT3 : Hid (∀ V, Below W3.heap.size W3 V → TabR V c a ca) := fun V hV => (HT.out.below hb3).below hV
        have HG3 : Hid (∀ V, Below W3.heap.size W3 V → GT V) := fun V hV => HGT.out V (ball HB3.out hV)
        have hlen : c.length ≤ 2000 := HC.out.len
        have hc0 : 0 < c.length := by have := mayT_len HC.out.may; omega
        have HAl : Hid (∀ V, Below W3.heap.size W3 V → Calls Tryz.prog 12 #[.agg #[.slice a c.length ca]] V fun e w' => ∃ b d, e = .returned (.tuple #[.slice b (allM c).length d, .int .i64 0]) ∧ Hid (Below W0.heap.size W0 w')) := fun V hV => (PAll_any c HC.out a ca V (HG3.out V hV) (HT3.out V hV) hc0).mono fun e w' ⟨b, d, h1, h2, h3⟩ => ⟨b, d, h1, ball (ball HB3.out hV) h3⟩
        have HW3 : Hid (Below W3.heap.size W3 W3) := Below.refl _ _
        have hA3 := hW3.symm
        clear hW3 hb3 hX3 HT HB2 HOq HOf HGq HK y0 yz
        go_wp2
        go_loopw [8, 9] (fun n i wr => ∃ (k m : Nat), k ≤ c.length ∧ i = .int .i64 k ∧ n = .int .i64 m ∧ Hid (m = ((List.range k).flatMap (clsM c)).length) ∧ Hid (Below W3.heap.size W3 wr)) (fun _ i _ => c.length - (intOf i).toNat)
        case atStart => exact ⟨0, 0, Nat.zero_le _, rfl, rfl, rfl, HW3⟩
        case round =>
          rename World => U
          obtain ⟨k, m, hk, rfl, rfl, HM, HB⟩ := hrel
          obtain ⟨x0, xz⟩ := HK3.out _ HB.out
          by_cases hlt : k < c.length
          · obtain ⟨L, hL⟩ : ∃ L, L = (clsM c k).length := ⟨_, rfl⟩
            have hL4 := clsM_len c k
            rw [← hL] at hL4
            have hm8 : m ≤ 8000 := by have := flat_le c k; rw [← HM.out] at this; omega
            have HOk : Hid (∀ V, Below W3.heap.size W3 V → Calls Tryz.prog 15 #[.agg #[.slice a c.length ca], .int .i64 k] V fun e w' => ∃ b d, e = .returned (.tuple #[.slice b L d, .int .i64 0]) ∧ Hid (RowsP w' (.slice b L d) (clsM c k)) ∧ Hid (Below W3.heap.size W3 w')) := fun V hV => by
              rw [hL]
              exact (POf_any c HC.out a ca k hlt V (HG3.out V hV) (HT3.out V hV)).mono fun e w' ⟨b, d, h1, h2, h3⟩ => ⟨b, d, h1, h2, ball hV h3.out⟩
            have HCk : Hid (∀ V, Below W3.heap.size W3 V → Calls Tryz.prog 16 #[.agg #[.slice a c.length ca], .int .i64 k] V fun e w' => e = .returned (.int .i64 L) ∧ Hid (Below V.heap.size V w')) := fun V hV => by
              rw [hL]
              exact PCount_any c HC.out a ca k hlt V (HG3.out V hV) (HT3.out V hV)
            have hki : (k : Int) < (c.length : Int) := by omega
            have hk0 : (0 : Int) ≤ (k : Int) := by omega
            have hmi : (m : Int) ≤ 8000 := by omega
            have hLi : (L : Int) ≤ 4 := by omega
            go_wp2_with (first
              | (go_at_call 15; refine (HOk.out _ HB.out).mono ?_; rintro e w4 ⟨rb, rd, rfl, HR4, HB4⟩; obtain ⟨y0, yz⟩ := HK3.out _ HB4.out)
              | (go_at_call 16; refine (HCk.out _ HB4.out).mono ?_; rintro e w5 ⟨rfl, HB5⟩))
            have HB45 : Hid (Below W3.heap.size W3 w5) := ball HB4.out HB5.out
            have HR5 : Hid (RowsP w5 (.slice rb L rd) (clsM c k)) := HR4.out.below HB5.out
            go_loopw [12] (fun i V => ∃ j : Nat, j ≤ L ∧ i = .int .i64 j ∧ Hid (Below w5.heap.size w5 V)) (fun i _ => L - (intOf i).toNat)
            case atStart => exact ⟨0, Nat.zero_le _, rfl, Below.refl _ _⟩
            case round =>
              obtain ⟨j, hj, rfl, HV⟩ := hrel
              by_cases hjl : j < L
              · have HBV : Hid (Below W3.heap.size W3 wr) := ball HB45.out HV.out
                obtain ⟨rs, ra', rc', e1, e2, h3, h4⟩ := HR5.out.below HV.out
                injection e1 with ea el ec
                subst ea ec
                obtain ⟨⟨ys, ra, rc⟩, hr⟩ : ∃ r, rs[j]? = some r := ⟨_, List.getElem?_eq_getElem (by omega)⟩
                obtain ⟨gR, oR, rfl, hgR, c0⟩ := h3.cell hr
                have hmem : ys ∈ clsM c k := by rw [← e2]; exact List.mem_map.2 ⟨_, List.mem_of_getElem? hr, rfl⟩
                obtain ⟨k1, k2, k3, k4⟩ := clsM_ok HC.out hlt ys hmem
                have hys : 0 < ys.length := List.length_pos_iff.2 k1
                have hI := h3.ok _ (List.mem_of_getElem? hr)
                simp only at c0 hI
                obtain ⟨z0, zz⟩ := HK3.out _ HBV.out
                have HS : Hid (∀ V, Below wr.heap.size wr V → ((fun V : World => V.cell? ⟨gR, oR + j, none⟩ = some (.slice ra ys.length rc) ∧ V.cell? ⟨w2.heap.size, 0, none⟩ = some (.slice a c.length ca) ∧ gR < V.heap.size ∧ w2.heap.size < V.heap.size)) V) := fun V hV => ⟨(hV.cell (p := ⟨gR, oR + j, none⟩) hgR).trans c0, (HK3.out _ (ball HBV.out hV)).1, Nat.lt_of_lt_of_le hgR hV.size, (HK3.out _ (ball HBV.out hV)).2⟩
                have HRi : Hid (∀ V, Below wr.heap.size wr V → Calls Tryz.prog 17 #[.slice ra ys.length rc] V fun e w' => e = .returned (.bool true) ∧ Hid (Below V.heap.size V w')) := fun V hV => RRise_any ys k3 (by omega) ra rc V (hI.below hV)
                have HIs : Hid (∀ V, Below wr.heap.size wr V → Calls Tryz.prog 18 #[.agg #[.slice a c.length ca], .int .i64 k, .slice ra ys.length rc] V fun e w' => e = .returned (.bool true) ∧ Hid (Below V.heap.size V w')) := fun V hV => (PIs_any c HC.out a ca k hlt ys ra rc V (HG3.out _ (ball HBV.out hV)) (HT3.out _ (ball HBV.out hV)) (hI.below hV)).mono fun e w' ⟨h1, h2⟩ => ⟨by
                  rw [h1, List.any_eq_true.2 ⟨ys, hmem, decide_eq_true rfl⟩], h2⟩
                have HNm : Hid (∀ V, Below wr.heap.size wr V → Calls Tryz.prog 19 #[.agg #[.slice a c.length ca], .int .i64 k, .slice ra ys.length rc] V fun e w' => e = .returned (.bool true) ∧ Hid (Below V.heap.size V w')) := fun V hV => names_any c k ys k2 (clsM_hit HC.out hlt ys hmem) hlen (by omega) a ca ra rc V (HT3.out _ (ball HBV.out hV)) (hI.below hV)
                have hji : (j : Int) < (L : Int) := by omega
                have hj0 : (0 : Int) ≤ (j : Int) := by omega
                have hy0 : ¬ (ys.length : Int) = 0 := by omega
                have d0 := eq_f hy0
                have d1 : ¬ (3 : Int) < (ys.length : Int) := by omega
                clear h3 h4 e2 hr hmem k1 k2 k3 k4 hI el hys
                go_wp2
                refine wp_region_held_drew (S := (fun V : World => V.cell? ⟨gR, oR + j, none⟩ = some (.slice ra ys.length rc) ∧ V.cell? ⟨w2.heap.size, 0, none⟩ = some (.slice a c.length ca) ∧ gR < V.heap.size ∧ w2.heap.size < V.heap.size)) (by kernel_rfl) (HS.out _ (Below.refl _ _).drew) (fun hHeld => ?_)
                refine tkY 0 (.slice (some ⟨gR, oR, none⟩) L rd) ?_
                try simp only [kP, kA, kZ, kS]
                refine tkY 1 (.int .i64 j) ?_
                try simp only [kP, kA, kZ, kS]
                refine tkY 2 (.pointer (some ⟨gR, oR + j, none⟩)) ?_
                try simp only [kP, kA, kZ, kS]
                refine tkY 3 (.slice ra ys.length rc) ?_
                try simp only [kP, kA, kZ, kS]
                refine tkC 4 ?_
                intro K hK
                go_simp
                go_at_call 17
                refine (HRi.out _ ((Below.refl _ _).drew)).mono ?_
                rintro e u1 ⟨rfl, HU1⟩
                go_wp2_with fail
                refine hK.out _ _ (HS.out _ (ball ((Below.refl _ _).drew) HU1.out)) (fun hHeld => ?_)
                clear hK K
                try simp only [kP, kA, kZ, kS]
                refine tkY 5 (.bool false) ?_
                try simp only [kP, kA, kZ, kS]
                refine tkY 6 (.bool false) ?_
                try simp only [kP, kA, kZ, kS]
                refine tkY 7 (.slice (some ⟨gR, oR, none⟩) L rd) ?_
                try simp only [kP, kA, kZ, kS]
                refine tkY 8 (.int .i64 j) ?_
                try simp only [kP, kA, kZ, kS]
                refine tkY 9 (.pointer (some ⟨gR, oR + j, none⟩)) ?_
                try simp only [kP, kA, kZ, kS]
                refine tkY 10 (.slice ra ys.length rc) ?_
                try simp only [kP, kA, kZ, kS]
                refine tkY 11 (.int .i64 ys.length) ?_
                try simp only [kP, kA, kZ, kS]
                refine tkY 12 (.bool false) ?_
                try simp only [kP, kA, kZ, kS]
                refine tkY 13 (.bool false) ?_
                try simp only [kP, kA, kZ, kS]
                refine tkY 14 (.bool false) ?_
                try simp only [kP, kA, kZ, kS]
                refine tkY 15 (.slice (some ⟨gR, oR, none⟩) L rd) ?_
                try simp only [kP, kA, kZ, kS]
                refine tkY 16 (.int .i64 j) ?_
                try simp only [kP, kA, kZ, kS]
                refine tkY 17 (.pointer (some ⟨gR, oR + j, none⟩)) ?_
                try simp only [kP, kA, kZ, kS]
                refine tkY 18 (.slice ra ys.length rc) ?_
                try simp only [kP, kA, kZ, kS]
                refine tkY 19 (.int .i64 ys.length) ?_
                try simp only [kP, kA, kZ, kS]
                refine tkY 20 (.bool false) ?_
                try simp only [kP, kA, kZ, kS]
                refine tkY 21 (.bool false) ?_
                try simp only [kP, kA, kZ, kS]
                refine tkY 22 (.bool false) ?_
                try simp only [kP, kA, kZ, kS]
                refine tkY 23 (.agg #[.slice a c.length ca]) ?_
                try simp only [kP, kA, kZ, kS]
                refine tkY 24 (.int .i64 k) ?_
                try simp only [kP, kA, kZ, kS]
                refine tkY 25 (.slice (some ⟨gR, oR, none⟩) L rd) ?_
                try simp only [kP, kA, kZ, kS]
                refine tkY 26 (.int .i64 j) ?_
                try simp only [kP, kA, kZ, kS]
                refine tkY 27 (.pointer (some ⟨gR, oR + j, none⟩)) ?_
                try simp only [kP, kA, kZ, kS]
                refine tkY 28 (.slice ra ys.length rc) ?_
                try simp only [kP, kA, kZ, kS]
                refine tkC 29 ?_
                intro K hK
                go_simp
                go_at_call 18
                refine (HIs.out _ (ball ((Below.refl _ _).drew) HU1.out)).mono ?_
                rintro e u2 ⟨rfl, HU2⟩
                go_wp2_with fail
                refine hK.out _ _ (HS.out _ (ball (ball ((Below.refl _ _).drew) HU1.out) HU2.out)) (fun hHeld => ?_)
                clear hK K
                try simp only [kP, kA, kZ, kS]
                refine tkY 30 (.bool false) ?_
                try simp only [kP, kA, kZ, kS]
                refine tkY 31 (.bool false) ?_
                try simp only [kP, kA, kZ, kS]
                refine tkY 32 (.bool false) ?_
                try simp only [kP, kA, kZ, kS]
                refine tkY 33 (.agg #[.slice a c.length ca]) ?_
                try simp only [kP, kA, kZ, kS]
                refine tkY 34 (.int .i64 k) ?_
                try simp only [kP, kA, kZ, kS]
                refine tkY 35 (.slice (some ⟨gR, oR, none⟩) L rd) ?_
                try simp only [kP, kA, kZ, kS]
                refine tkY 36 (.int .i64 j) ?_
                try simp only [kP, kA, kZ, kS]
                refine tkY 37 (.pointer (some ⟨gR, oR + j, none⟩)) ?_
                try simp only [kP, kA, kZ, kS]
                refine tkY 38 (.slice ra ys.length rc) ?_
                try simp only [kP, kA, kZ, kS]
                refine tkC 39 ?_
                intro K hK
                go_simp
                go_at_call 19
                refine (HNm.out _ (ball (ball ((Below.refl _ _).drew) HU1.out) HU2.out)).mono ?_
                rintro e u3 ⟨rfl, HU3⟩
                go_wp2_with fail
                refine hK.out _ _ (HS.out _ (ball (ball (ball ((Below.refl _ _).drew) HU1.out) HU2.out) HU3.out)) (fun hHeld => ?_)
                clear hK K
                try simp only [kP, kA, kZ, kS]
                refine tkY 40 (.bool false) ?_
                try simp only [kP, kA, kZ, kS]
                refine tkY 41 (.bool false) ?_
                try simp only [kP, kA, kZ, kS]
                refine wpAnyH_done (by kernel_rfl) ?_ _
                go_wp2
                go_roundw
                case rel => exact ⟨j + 1, by omega, by go_num, ball HV.out (ball (ball (ball ((Below.refl _ _).drew) HU1.out) HU2.out) HU3.out)⟩
                case measure => simp [intOf]; omega
              · obtain rfl : j = L := by omega
                have HBV : Hid (Below W3.heap.size W3 wr) := ball HB45.out HV.out
                have HM2 : Hid (m + j = ((List.range (k + 1)).flatMap (clsM c)).length) := by
                  show _ = _
                  rw [flat_succ, ← HM.out, ← hL]
                have hmj : (m : Int) + (j : Int) = ((m + j : Nat) : Int) := by omega
                go_wp2
                go_roundw
                case rel => exact ⟨k + 1, m + j, by omega, by go_num, by (congr 1; omega), HM2, HBV⟩
                case measure => simp [intOf]; omega
          · obtain rfl : k = c.length := by omega
            obtain rfl : m = (allM c).length := HM.out
            go_wp2_with (first
              | (go_at_call 12; refine (HAl.out _ HB.out).mono ?_; rintro e w4 ⟨rb, rd, rfl, HB4⟩)
              | (go_at_call 9; refine (HWk.out _ HB4.out).mono ?_; rintro e w5 ⟨rfl, HB5⟩))
            go_ret
            exact ⟨rfl, HU.out _ HB5.out⟩
      · have e0 := ne_t her
        clear her
        have HBn : Hid (∀ ob, Below W0.heap.size W0 (w2.alloc ob)) := fun ob => HB2.out.alloc HB2.out.size _
        go_wp2_with (first
          | (go_at_call 9; refine (HWk.out _ (HBn.out _)).mono ?_; rintro e w3 ⟨rfl, HB3⟩))
        go_ret
        exact ⟨rfl, HU.out _ HB3.out⟩
end Go.Proofs.YtpppfghdjbmbgaaGreatDoor.Tm
