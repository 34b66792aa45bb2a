/- CoreMeans: its walk. -/
import Derived.Test.YtfbjgadgfjnamaaGreatDoorZCmC
import Derived.Test.YtfbjgadgfjnamaaGreatDoorZHdI
import Derived.Test.YtfbjgadgfjnamaaGreatDoorZCqH
import Derived.Test.YtfbjgadgfjnamaaGreatDoorZSgY
namespace Go.Proofs.YtfbjgadgfjnamaaGreatDoor
open Go.RowKit
open Tm (NodeA NodeOk TabR mayT MkS MkI PlA srt nodA Cl IntsR QC)
set_option linter.unusedVariables false
theorem bits_at {w : World} {L : List (Int × Bool)} {a : Option Addr} (h : At w w.heap.size (L.flatMap bitL) a) {i : Nat} (hi : i < L.length) : ∃ g o : Nat, a = some ⟨g, o, none⟩ ∧ ∀ V, Below w.heap.size w V → g < V.heap.size ∧ ∀ j : Nat, j < L.length → V.cell? ⟨g, o + j, none⟩ = some (.bool (atV L j).2) := by
  obtain ⟨g, o, e, hg, hc⟩ := h (by rw [len_flat bitL_len]; omega)
  refine ⟨g, o, e, fun V hV => ⟨Nat.lt_of_lt_of_le hg hV.size, fun j hj => (hV.cell (p := ⟨g, o + j, none⟩) hg).trans ?_⟩⟩
  have h1 := get_flat bitL_len L j 0 (atV L j) (atV_get hj) (by omega)
  rw [Nat.mul_one, Nat.add_zero] at h1
  exact hc j _ (h1.trans rfl)
theorem vals_at {w : World} {L : List (Int × Bool)} {a : Option Addr} (h : At w w.heap.size (L.flatMap valL) a) {i : Nat} (hi : i < L.length) : ∃ g o : Nat, a = some ⟨g, o, none⟩ ∧ ∀ V, Below w.heap.size w V → g < V.heap.size ∧ ∀ j : Nat, j < L.length → V.cell? ⟨g, o + j, none⟩ = some (.int .i64 (atV L j).1) := by
  obtain ⟨g, o, e, hg, hc⟩ := h (by rw [len_flat valL_len]; omega)
  refine ⟨g, o, e, fun V hV => ⟨Nat.lt_of_lt_of_le hg hV.size, fun j hj => (hV.cell (p := ⟨g, o + j, none⟩) hg).trans ?_⟩⟩
  have h1 := get_flat valL_len L j 0 (atV L j) (atV_get hj) (by omega)
  rw [Nat.mul_one, Nat.add_zero] at h1
  exact hc j _ (h1.trans rfl)
/-- What the law asks of core.Of. -/
def OfM (x : SigV) (y : WorV) (l : List NodeA) (roots : List Int) (W : World) (e : Ending) (w' : World) : Prop :=
  Below W.heap.size W w' ∧ ((∃ err : Int, e = .returned (.tuple #[.agg #[.slice none 0 0], .slice none 0 0, .int .i64 err]) ∧ ¬ err = 0 ∧ (err = 2 ∨ err = 10 ∨ err = 40)) ∨
    (∃ (t : List NodeA) (ims : List Int) (a : Option Addr) (c : Nat) (b : Option Addr) (d : Nat), e = .returned (.tuple #[.agg #[.slice a t.length c], .slice b ims.length d, .int .i64 0]) ∧ TabR w' t a c ∧ IntsR w' ims b d ∧ t.length ≤ 2000 ∧ ims.length = roots.length ∧ valE x y t = 0 ∧ Cl t ∧
      ∀ (j : Nat) (z r : Int), ims[j]? = some z → roots[j]? = some r → (0 ≤ z ∧ z < (t.length : Int)) ∧ (0 ≤ r ∧ r < (l.length : Int)) ∧ srt t z = srt l r ∧ ((atV (evK x y l l.length) r).2 = false → (atV (evK x y t t.length) z).1 = (atV (evK x y l l.length) r).1)))
theorem OfM_any (x : SigV) (y : WorV) (l : List NodeA) (a : Option Addr) (c : Nat) (xs : List Int) (b : Option Addr) (d : Nat) (w : World) (hv : valE x y l = 0) (hG : Tm.GC w) (hA : TabR w l a c) (hl : l.length ≤ 300) (hX : IntsR w xs b d) (hx : xs.length ≤ 100) :
    Calls Tryz.prog 12 #[.agg #[.slice a l.length c], .slice b xs.length d, .int .i64 2000] w (OfM x y l xs w) := by
  have hV := vals_of hv
  refine (Tm.Of_any (QS x y l (evK x y l l.length)) 2000 l a c xs b d w hG.t hG.r hA (by omega) hX (by omega) (by decide) (Tm.l64 (by decide)) (fun _ _ => QS_new x y l _) (fun hm hb => QS_step hV (by decide) hA.ok (fun k n hk => (Tm.ok_at (Tm.mayT_ok hm).2 hk).1) hV.ws)).mono ?_
  rintro e w' ⟨h1, ⟨err, rfl, h2, h3⟩ | ⟨s, im, ims, a', c', b', d', rfl, ht, hi, hw, him, hlen, hrg⟩⟩
  · exact ⟨h1, .inl ⟨err, rfl, h2, err_of hv h3 h2⟩⟩
  · obtain ⟨m1, m2, m3⟩ := means_of hv hw him hrg
    exact ⟨h1, .inr ⟨s.l, ims, a', c', b', d', rfl, ht, hi, hw.inv.len, hlen, m1, m2, fun j z r hz hr => by
      obtain ⟨n1, n2, n3⟩ := m3 j z r hz hr
      exact ⟨n1, hrg r (List.mem_of_getElem? hr), n2, n3⟩⟩⟩
set_option maxRecDepth 300000 in
set_option maxHeartbeats 16000000 in
theorem CoreMeans_c (w : World) (x : SigV) (hX : SigR w x) (y : WorV) (hY : WorR w y) (l : List NodeA) (ad : Option Addr) (cp : Nat) (hA : TabR w l ad cp) (xs : List Int) (b1 : Option Addr) (d1 : Nat) (hXs : IntsR w xs b1 d1) (hG : Tm.GC w) :
    Calls Tryz.prog 3 #[.agg #[.slice x.sa x.sorts.length x.sc, .slice x.fa x.funs.length x.fc, .slice x.ma x.macs.length x.mc], .agg #[.slice y.sa y.sizes.length y.sc, .slice y.fa y.funs.length y.fc], .agg #[.slice ad l.length cp], .slice b1 xs.length d1] w fun e w' => e = .returned (.bool true) ∧ Below w.heap.size w w' := by
  have hlm : l.length ≤ 9223372036854775807 := by have h1 := hA.le; have h2 := hA.cap; simp only [maxLen] at h2; omega
  have hx1 := hXs.le
  have hx2 : xs.length ≤ 9223372036854775807 := by have h2 := hXs.cap; simp only [maxLen] at h2; omega
  obtain ⟨W0, hW0⟩ : ∃ W0, W0 = ((w.alloc (.cells #[.slice x.sa x.sorts.length x.sc, .slice x.fa x.funs.length x.fc, .slice x.ma x.macs.length x.mc] 26)).alloc (.cells #[.slice y.sa y.sizes.length y.sc, .slice y.fa y.funs.length y.fc] 30)).alloc (.cells #[.slice ad l.length cp] 33) := ⟨_, rfl⟩
  have hB0 : Below w.heap.size w W0 := by rw [hW0]; exact (((Below.refl _ w).alloc (Nat.le_refl _) _).alloc (by simp) _).alloc (by simp; omega) _
  have HB0 := Lib.hid hB0
  have hX0 : W0.heap[w.heap.size]? = some (.cells #[.slice x.sa x.sorts.length x.sc, .slice x.fa x.funs.length x.fc, .slice x.ma x.macs.length x.mc] 26 (0, 0)) := by
    rw [hW0]
    exact ((Below.heap_alloc _ _ _ (by simp; omega)).trans (Below.heap_alloc _ _ _ (by simp))).trans (heap_alloc_new w _)
  have hY0 : W0.heap[w.heap.size + 1]? = some (.cells #[.slice y.sa y.sizes.length y.sc, .slice y.fa y.funs.length y.fc] 30 (0, 0)) := by
    have := heap_alloc_new (w.alloc (.cells #[.slice x.sa x.sorts.length x.sc, .slice x.fa x.funs.length x.fc, .slice x.ma x.macs.length x.mc] 26)) (.cells #[.slice y.sa y.sizes.length y.sc, .slice y.fa y.funs.length y.fc] 30)
    rw [World.size_alloc] at this
    rw [hW0]
    exact (Below.heap_alloc _ _ _ (by simp)).trans this
  have hT0 : W0.heap[w.heap.size + 1 + 1]? = some (.cells #[.slice ad l.length cp] 33 (0, 0)) := by
    have := heap_alloc_new ((w.alloc (.cells #[.slice x.sa x.sorts.length x.sc, .slice x.fa x.funs.length x.fc, .slice x.ma x.macs.length x.mc] 26)).alloc (.cells #[.slice y.sa y.sizes.length y.sc, .slice y.fa y.funs.length y.fc] 30)) (.cells #[.slice ad l.length cp] 33)
    rw [World.size_alloc, World.size_alloc] at this
    rw [hW0]
    exact this
  have HK : Hid (∀ V, Below W0.heap.size W0 V → V.cell? ⟨w.heap.size, 0, none⟩ = some (.slice x.sa x.sorts.length x.sc) ∧ V.cell? ⟨w.heap.size, 1, none⟩ = some (.slice x.fa x.funs.length x.fc) ∧ V.cell? ⟨w.heap.size, 2, none⟩ = some (.slice x.ma x.macs.length x.mc) ∧ V.cell? ⟨w.heap.size + 1, 0, none⟩ = some (.slice y.sa y.sizes.length y.sc) ∧ V.cell? ⟨w.heap.size + 1, 1, none⟩ = some (.slice y.fa y.funs.length y.fc) ∧ V.cell? ⟨w.heap.size + 1 + 1, 0, none⟩ = some (.slice ad l.length cp) ∧ w.heap.size + 1 + 1 < V.heap.size) := fun V hV => by
    obtain ⟨c0, c1, c2, _⟩ := sig_cells ((hV.block _ (Array.getElem?_eq_some_iff.1 hX0).1).trans hX0)
    obtain ⟨y0, y1, _⟩ := wor_cells ((hV.block _ (Array.getElem?_eq_some_iff.1 hY0).1).trans hY0)
    have h := (hV.block _ (Array.getElem?_eq_some_iff.1 hT0).1).trans hT0
    exact ⟨c0, c1, c2, y0, y1, (cell_of_row _ _ 0 _ _ _ h).trans rfl, (Array.getElem?_eq_some_iff.1 h).1⟩
  have HU : Hid (∀ V, Below W0.heap.size W0 V → Below w.heap.size w V) := fun V hV => hB0.trans (hV.mono hB0.size)
  have HX : Hid (∀ V, Below W0.heap.size W0 V → SigR V x) := fun V hV => hX.below (HU.out V hV)
  have HY : Hid (∀ V, Below W0.heap.size W0 V → WorR V y) := fun V hV => hY.below (HU.out V hV)
  have HTA : Hid (∀ V, Below W0.heap.size W0 V → TabR V l ad cp) := fun V hV => hA.below (HU.out V hV)
  have HXS : Hid (∀ V, Below W0.heap.size W0 V → IntsR V xs b1 d1) := fun V hV => hXs.below (HU.out V hV)
  have HG : Hid (∀ V, Below W0.heap.size W0 V → Tm.GC V) := fun V hV => hG.below (HU.out V hV)
  have HWk : Hid (∀ V, Below W0.heap.size W0 V → Calls Tryz.prog 10 #[] V fun e w' => e = .returned (.bool true) ∧ Below W0.heap.size W0 w') := fun V hV => (Tm.wakes_any V (HG.out V hV).t (HG.out V hV).r).mono fun e w' ⟨h1, h2⟩ => ⟨h1, hV.trans (h2.mono hV.size)⟩
  have HGs : Hid (∀ V, Below W0.heap.size W0 V → Calls Tryz.prog 7 #[.agg #[.slice x.sa x.sorts.length x.sc, .slice x.fa x.funs.length x.fc, .slice x.ma x.macs.length x.mc]] V fun e w' => ∃ q, e = .returned (.bool q) ∧ Below W0.heap.size W0 w') := fun V hV => (Great_any x V (HX.out V hV)).mono fun e w' ⟨⟨q, h1⟩, h2⟩ => ⟨q, h1, hV.trans (h2.mono hV.size)⟩
  have HGw : Hid (∀ V, Below W0.heap.size W0 V → Calls Tryz.prog 8 #[.agg #[.slice y.sa y.sizes.length y.sc, .slice y.fa y.funs.length y.fc]] V fun e w' => ∃ q, e = .returned (.bool q) ∧ Below W0.heap.size W0 w') := fun V hV => (great12_any y V (HY.out V hV)).mono fun e w' ⟨⟨q, h1⟩, h2⟩ => ⟨q, h1, hV.trans (h2.mono hV.size)⟩
  have HGt : Hid (∀ q, decide (300 < l.length) = q → ∀ V, Below W0.heap.size W0 V → Calls Tryz.prog 9 #[.agg #[.slice ad l.length cp]] V fun e w' => e = .returned (.bool q) ∧ Below W0.heap.size W0 w') := fun q hq V hV => (Tm.Great_any l ad cp q V hlm hq).mono fun e w' ⟨h1, h2⟩ => ⟨h1, hV.trans (h2.mono hV.size)⟩
  clear hX0 hY0 hT0 hX hY hA hG hB0 hXs
  obtain ⟨c0, c1, c2, y0, y1, t0, z0⟩ := HK.out _ (Below.refl _ W0)
  go_enter Tryz.func3, Tryz.ntmps3
  go_wp2_with fail
  rw [← hW0]
  clear hW0
  refine (HGs.out _ (Below.refl _ _)).mono ?_
  rintro e w1 ⟨q1, rfl, hb1⟩
  have HB1 := Lib.hid hb1
  clear hb1 c0 c1 c2 y0 y1 t0 z0; obtain ⟨c0, c1, c2, y0, y1, t0, z0⟩ := HK.out _ HB1.out
  cases q1 with
  | true =>
    go_wp2_with fail
    refine (HWk.out _ HB1.out).mono ?_
    rintro e w9 ⟨rfl, hb9⟩
    go_wp2_with fail
    go_ret
    exact ⟨rfl, HU.out _ hb9⟩
  | false =>
  go_wp2_with fail
  refine (HGw.out _ HB1.out).mono ?_
  rintro e w2 ⟨q2, rfl, hb2⟩
  have HB2 := Lib.hid hb2
  clear hb2 c0 c1 c2 y0 y1 t0 z0; obtain ⟨c0, c1, c2, y0, y1, t0, z0⟩ := HK.out _ HB2.out
  cases q2 with
  | true =>
    go_wp2_with fail
    refine (HWk.out _ HB2.out).mono ?_
    rintro e w9 ⟨rfl, hb9⟩
    go_wp2_with fail
    go_ret
    exact ⟨rfl, HU.out _ hb9⟩
  | false =>
  go_wp2_with fail
  obtain ⟨q3, hq3⟩ : ∃ q, decide (300 < l.length) = q := ⟨_, rfl⟩
  refine (HGt.out _ hq3 _ HB2.out).mono ?_
  rintro e w3 ⟨rfl, hb3⟩
  have HB3 := Lib.hid hb3
  clear hb3 c0 c1 c2 y0 y1 t0 z0; obtain ⟨c0, c1, c2, y0, y1, t0, z0⟩ := HK.out _ HB3.out
  cases q3 with
  | true =>
    clear hq3
    go_wp2_with fail
    refine (HWk.out _ HB3.out).mono ?_
    rintro e w9 ⟨rfl, hb9⟩
    go_wp2_with fail
    go_ret
    exact ⟨rfl, HU.out _ hb9⟩
  | false =>
  have hl3 : l.length ≤ 300 := by have := of_decide_eq_false hq3; omega
  clear hq3
  by_cases hfew : 100 < xs.length
  · have d5 : decide (100 < (xs.length : Int)) = true := decide_eq_true (by omega)
    go_wp2_with fail
    refine (HWk.out _ HB3.out).mono ?_
    rintro e w9 ⟨rfl, hb9⟩
    go_wp2_with fail
    go_ret
    exact ⟨rfl, HU.out _ hb9⟩
  have d5 : decide (100 < (xs.length : Int)) = false := decide_eq_false (by omega)
  have HVa : Hid (Calls Tryz.prog 11 #[.agg #[.slice x.sa x.sorts.length x.sc, .slice x.fa x.funs.length x.fc, .slice x.ma x.macs.length x.mc], .agg #[.slice y.sa y.sizes.length y.sc, .slice y.fa y.funs.length y.fc], .agg #[.slice ad l.length cp]] w3 fun e w' => ValsPost w3 x y l e w') := RValues_any x y l ad cp w3 (HX.out _ HB3.out) (HY.out _ HB3.out) (HTA.out _ HB3.out) (by omega)
  go_wp2_with fail
  refine HVa.out.mono ?_
  rintro e w4 ⟨hb4, hres⟩
  have HB4 : Hid (Below W0.heap.size W0 w4) := HB3.out.trans (hb4.mono HB3.out.size)
  clear hb4 c0 c1 c2 y0 y1 t0 z0; obtain ⟨c0, c1, c2, y0, y1, t0, z0⟩ := HK.out _ HB4.out
  rcases hres with ⟨hne, rfl⟩ | ⟨hv, la, lv, oa, lo, rfl, hla, hoa⟩
  · have e0 := ne_true hne
    generalize valE x y l = EE at *
    clear hne
    go_wp2_with fail
    refine (HWk.out _ HB4.out).mono ?_
    rintro e w9 ⟨rfl, hb9⟩
    go_wp2_with fail
    go_ret
    exact ⟨rfl, HU.out _ hb9⟩
  have HOf : Hid (Calls Tryz.prog 12 #[.agg #[.slice ad l.length cp], .slice b1 xs.length d1, .int .i64 2000] w4 (OfM x y l xs w4)) := OfM_any x y l ad cp xs b1 d1 w4 hv (HG.out _ HB4.out) (HTA.out _ HB4.out) hl3 (HXS.out _ HB4.out) (by omega)
  have HLa := Lib.hid hla
  have HOa := Lib.hid hoa
  clear hv hla hoa HVa
  go_wp2_with fail
  refine HOf.out.mono ?_
  rintro e w5 ⟨hb5, ⟨err, rfl, hne, herr⟩ | ⟨u, ims, a2, cz, b2, d2, rfl, hTu, hIm, hul, hil, hvu, hcl, hfa⟩⟩
  · have HB5 : Hid (Below W0.heap.size W0 w5) := HB4.out.trans (hb5.mono HB4.out.size)
    have HB6 : Hid (∀ o, Below W0.heap.size W0 (w5.alloc o)) := fun o => HB5.out.alloc HB5.out.size o
    clear hb5 c0 c1 c2 y0 y1 t0 z0 hne
    rcases herr with rfl | rfl | rfl
    all_goals
      go_wp2_with fail
      refine (HWk.out _ (HB6.out _)).mono ?_
      rintro e w9 ⟨rfl, hb9⟩
      go_wp2_with fail
      go_ret
      exact ⟨rfl, HU.out _ hb9⟩
  have HB5 : Hid (Below W0.heap.size W0 w5) := HB4.out.trans (hb5.mono HB4.out.size)
  have h45 : Below w4.heap.size w4 w5 := hb5
  obtain ⟨W6, hW6⟩ : ∃ W6, W6 = w5.alloc (.cells #[.slice a2 u.length cz] 33) := ⟨_, rfl⟩
  have hb6 : Below w5.heap.size w5 W6 := by rw [hW6]; exact (Below.refl _ w5).alloc (Nat.le_refl _) _
  have HB6 : Hid (Below W0.heap.size W0 W6) := HB5.out.trans (hb6.mono HB5.out.size)
  have hu6 : W6.heap[w5.heap.size]? = some (.cells #[.slice a2 u.length cz] 33 (0, 0)) := by rw [hW6]; exact heap_alloc_new w5 _
  have HU6 : Hid (∀ V, Below W6.heap.size W6 V → (V.cell? ⟨w5.heap.size, 0, none⟩ = some (.slice a2 u.length cz) ∧ w5.heap.size < V.heap.size) ∧ Below W0.heap.size W0 V ∧ TabR V u a2 cz ∧ IntsR V ims b2 d2) := fun V hV => by
    have h1 := (hV.block _ (Array.getElem?_eq_some_iff.1 hu6).1).trans hu6
    have h56 : Below w5.heap.size w5 V := hb6.trans (hV.mono hb6.size)
    exact ⟨⟨(cell_of_row _ _ 0 _ _ _ h1).trans rfl, (Array.getElem?_eq_some_iff.1 h1).1⟩, HB6.out.trans (hV.mono HB6.out.size), hTu.below h56, hIm.below h56⟩
  have HV4 : Hid (∀ V, Below W6.heap.size W6 V → Below w4.heap.size w4 V) := fun V hV => h45.trans ((hb6.trans (hV.mono hb6.size)).mono h45.size)
  have HVu : Hid (Calls Tryz.prog 11 #[.agg #[.slice x.sa x.sorts.length x.sc, .slice x.fa x.funs.length x.fc, .slice x.ma x.macs.length x.mc], .agg #[.slice y.sa y.sizes.length y.sc, .slice y.fa y.funs.length y.fc], .agg #[.slice a2 u.length cz]] W6 fun e w' => ValsPost W6 x y u e w') := RValues_any x y u a2 cz W6 (HX.out _ HB6.out) (HY.out _ HB6.out) (HU6.out _ (Below.refl _ _)).2.2.1 (by omega)
  have HIs : Hid (∀ V, Below W6.heap.size W6 V → Calls Tryz.prog 13 #[.agg #[.slice a2 u.length cz]] V fun e w' => e = .returned (.bool true) ∧ Below V.heap.size V w') := fun V hV => Tm.RIs_any u hcl a2 cz V (HU6.out V hV).2.2.1
  have HFa := Lib.hid hfa
  have HIl := Lib.hid hil
  have HVU := Lib.hid hvu
  have hdl : ((ims.length : Int) != (xs.length : Int)) = false := by rw [hil]; simp
  obtain ⟨⟨u0, uz⟩, _, _, _⟩ := HU6.out _ (Below.refl _ _)
  clear hb5 h45 hTu hIm hil hvu hcl hfa hu6 hb6 HOf c0 c1 c2 y0 y1 t0 z0
  obtain ⟨c0, c1, c2, y0, y1, t0, z0⟩ := HK.out _ HB6.out
  rw [hW6] at c0 c1 c2 y0 y1 t0 u0
  go_wp2_with fail
  rw [← hW6]
  clear hW6
  refine HVu.out.mono ?_
  rintro e w7 ⟨hb7, hres⟩
  have HB7 := Lib.hid hb7
  clear hb7 c0 c1 c2 y0 y1 t0 z0 u0 uz HVu
  rcases hres with ⟨hne, _⟩ | ⟨_, lxa, lx, lpa, lp, rfl, hlx, hlp⟩
  · exact absurd HVU.out hne
  have HLx := Lib.hid hlx
  have HLp := Lib.hid hlp
  obtain ⟨⟨u0, uz⟩, _, _, _⟩ := HU6.out _ HB7.out
  clear hlx hlp
  go_wp2_with fail
  refine (HIs.out _ HB7.out).mono ?_
  rintro e w8 ⟨rfl, hb8⟩
  have HB8 : Hid (Below W6.heap.size W6 w8) := HB7.out.trans (hb8.mono HB7.out.size)
  have HB78 := Lib.hid hb8
  clear hb8 u0 uz
  go_wp2_with fail
  go_loopw [18] (fun i wr => ∃ k : Nat, k ≤ ims.length ∧ i = .int .i64 k ∧ Hid (Below w8.heap.size w8 wr)) (fun i _ => ims.length - (intOf i).toNat)
  case atStart => exact ⟨0, Nat.zero_le _, rfl, Below.refl _ _⟩
  case round =>
    obtain ⟨k, hkl, rfl, HR⟩ := hrel
    by_cases hlt : k < ims.length
    · have hxl : k < xs.length := by have := HIl.out; omega
      obtain ⟨r, hr⟩ : ∃ r, xs[k]? = some r := ⟨_, List.getElem?_eq_getElem hxl⟩
      obtain ⟨z, hz⟩ : ∃ z, ims[k]? = some z := ⟨_, List.getElem?_eq_getElem hlt⟩
      obtain ⟨⟨z1, z2⟩, ⟨r1, r2⟩, hs, hval⟩ := HFa.out k z r hz hr
      have hW8 : Below W6.heap.size W6 wr := HB8.out.trans (HR.out.mono HB8.out.size)
      have HWr : Hid (Below W6.heap.size W6 wr) := hW8
      obtain ⟨⟨u0, uz⟩, hb0, hTu, hIm⟩ := HU6.out _ hW8
      obtain ⟨gr, or_, rfl, hgr, q0⟩ := (HXS.out _ hb0).cell hr
      obtain ⟨gi, oi, rfl, hgi, q1⟩ := hIm.cell hz
      obtain ⟨rr, rfl⟩ : ∃ n : Nat, r = (n : Int) := ⟨r.toNat, by omega⟩
      obtain ⟨zz, rfl⟩ : ∃ n : Nat, z = (n : Int) := ⟨z.toNat, by omega⟩
      have hrl : rr < l.length := by omega
      have hzl : zz < u.length := by omega
      obtain ⟨gt, ot, rfl, hgt, _, _, _, _, _, q2, _, _⟩ := (HTA.out _ hb0).node (Tm.nodA_get hrl)
      obtain ⟨gc, oc, rfl, hgc, _, _, _, _, _, q3, _, _⟩ := hTu.node (Tm.nodA_get hzl)
      obtain ⟨_, _, _, _, _, t0, tz⟩ := HK.out _ hb0
      obtain ⟨sr, hsr⟩ : ∃ s, (nodA l rr).sort = s := ⟨_, rfl⟩
      have hs2 : (nodA u zz).sort = sr := hs.trans hsr
      rw [hsr] at q2
      rw [hs2] at q3
      have h4r := HV4.out _ hW8
      have h7r : Below w7.heap.size w7 wr := HB78.out.trans (HR.out.mono HB78.out.size)
      obtain ⟨gv, ov, rfl, hgv⟩ := vals_at HLa.out (i := rr) (by rw [evK_len]; exact hrl)
      obtain ⟨go, oo, rfl, hgo⟩ := bits_at HOa.out (i := rr) (by rw [evK_len]; exact hrl)
      obtain ⟨gx, ox, rfl, hgx⟩ := vals_at HLx.out (i := zz) (by rw [evK_len]; exact hzl)
      obtain ⟨gp, op, rfl, hgp⟩ := bits_at HLp.out (i := zz) (by rw [evK_len]; exact hzl)
      rw [evK_len] at hgv hgo hgx hgp
      obtain ⟨zv, q4⟩ := hgv _ h4r
      obtain ⟨zo, q5⟩ := hgo _ h4r
      obtain ⟨zx, q6⟩ := hgx _ h7r
      obtain ⟨zp, q7⟩ := hgp _ h7r
      have q4 := q4 rr hrl
      have q5 := q5 rr hrl
      have q6 := q6 zz hzl
      have q7 := q7 zz hzl
      obtain ⟨ob, hob⟩ : ∃ b, (atV (evK x y l l.length) (rr : Int)).2 = b := ⟨_, rfl⟩
      obtain ⟨va, hva⟩ : ∃ b, (atV (evK x y l l.length) (rr : Int)).1 = b := ⟨_, rfl⟩
      obtain ⟨pb, hpb⟩ : ∃ b, (atV (evK x y u u.length) (zz : Int)).2 = b := ⟨_, rfl⟩
      obtain ⟨vb, hvb⟩ : ∃ b, (atV (evK x y u u.length) (zz : Int)).1 = b := ⟨_, rfl⟩
      rw [hob, hva, hvb] at hval
      rw [hva] at q4
      rw [hob] at q5
      rw [hvb] at q6
      rw [hpb] at q7
      have HQ : Hid (∀ V, Below wr.heap.size wr V → V.cell? ⟨gr, or_ + k, none⟩ = some (.int .i64 rr) ∧ V.cell? ⟨gi, oi + k, none⟩ = some (.int .i64 zz) ∧ V.cell? ⟨w.heap.size + 1 + 1, 0, none⟩ = some (.slice (some ⟨gt, ot, none⟩) l.length cp) ∧ V.cell? ⟨w5.heap.size, 0, none⟩ = some (.slice (some ⟨gc, oc, none⟩) u.length cz) ∧ V.cell? ⟨gt, ot + rr * 8 + 5, none⟩ = some (.int .i64 sr) ∧ V.cell? ⟨gc, oc + zz * 8 + 5, none⟩ = some (.int .i64 sr) ∧ V.cell? ⟨go, oo + rr, none⟩ = some (.bool ob) ∧ V.cell? ⟨gp, op + zz, none⟩ = some (.bool pb) ∧ V.cell? ⟨gv, ov + rr, none⟩ = some (.int .i64 va) ∧ V.cell? ⟨gx, ox + zz, none⟩ = some (.int .i64 vb)) := fun V hV => ⟨(hV.cell (p := ⟨gr, or_ + k, none⟩) hgr).trans q0, (hV.cell (p := ⟨gi, oi + k, none⟩) hgi).trans q1, (hV.cell (p := ⟨w.heap.size + 1 + 1, 0, none⟩) tz).trans t0, (hV.cell (p := ⟨w5.heap.size, 0, none⟩) uz).trans u0, (hV.cell (p := ⟨gt, ot + rr * 8 + 5, none⟩) hgt).trans q2, (hV.cell (p := ⟨gc, oc + zz * 8 + 5, none⟩) hgc).trans q3, (hV.cell (p := ⟨go, oo + rr, none⟩) zo).trans q5, (hV.cell (p := ⟨gp, op + zz, none⟩) zp).trans q7, (hV.cell (p := ⟨gv, ov + rr, none⟩) zv).trans q4, (hV.cell (p := ⟨gx, ox + zz, none⟩) zx).trans q6⟩
      have HVal : Hid (ob = false → vb = va) := hval
      have hki : (k : Int) < (ims.length : Int) := by omega
      have hkx : (k : Int) < (xs.length : Int) := by omega
      have hri : (rr : Int) < (l.length : Int) := by omega
      have hzi : (zz : Int) < (u.length : Int) := by omega
      have hk0 : (0 : Int) ≤ (k : Int) := by omega
      have hr0 : (0 : Int) ≤ (rr : Int) := by omega
      have hz0 : (0 : Int) ≤ (zz : Int) := by omega
      have HB2 : Hid (Below w8.heap.size w8 wr.drew.drew) := HR.out.drew.drew
      have dr0 : decide ((rr : Int) < 0) = false := decide_eq_false (by omega)
      have dr1 : decide ((l.length : Int) ≤ (rr : Int)) = false := decide_eq_false (by omega)
      have dz0 : decide ((zz : Int) < 0) = false := decide_eq_false (by omega)
      have dz1 : decide ((u.length : Int) ≤ (zz : Int)) = false := decide_eq_false (by omega)
      clear hr hz z1 z2 r1 r2 hs hval hW8 hb0 hTu hIm hgr hgi q0 q1 hgt hgc q2 q3 t0 tz hsr hs2 h4r h7r hgv hgo hgx hgp zv zo zx zp q4 q5 q6 q7 hob hva hpb hvb u0 uz
      go_wp2_with fail
      refine wp_region_held_drew (S := fun V => V.cell? ⟨gr, or_ + k, none⟩ = some (.int .i64 rr) ∧ V.cell? ⟨gi, oi + k, none⟩ = some (.int .i64 zz) ∧ V.cell? ⟨w.heap.size + 1 + 1, 0, none⟩ = some (.slice (some ⟨gt, ot, none⟩) l.length cp) ∧ V.cell? ⟨w5.heap.size, 0, none⟩ = some (.slice (some ⟨gc, oc, none⟩) u.length cz) ∧ V.cell? ⟨gt, ot + rr * 8 + 5, none⟩ = some (.int .i64 sr) ∧ V.cell? ⟨gc, oc + zz * 8 + 5, none⟩ = some (.int .i64 sr) ∧ V.cell? ⟨go, oo + rr, none⟩ = some (.bool ob) ∧ V.cell? ⟨gp, op + zz, none⟩ = some (.bool pb) ∧ V.cell? ⟨gv, ov + rr, none⟩ = some (.int .i64 va) ∧ V.cell? ⟨gx, ox + zz, none⟩ = some (.int .i64 vb)) (by kernel_rfl) (HQ.out _ (Below.refl _ _).drew) (fun hHeld => ?_)
      refine tkY 0 (.slice (some ⟨gr, or_, none⟩) xs.length d1) ?_
      try simp only [kP, kA, kZ, kS]
      refine tkY 1 (.int .i64 k) ?_
      try simp only [kP, kA, kZ, kS]
      refine tkY 2 (.pointer (some ⟨gr, or_ + k, none⟩)) ?_
      try simp only [kP, kA, kZ, kS]
      refine tkY 3 (.int .i64 rr) ?_
      try simp only [kP, kA, kZ, kS]
      refine tkY 4 (.bool false) ?_
      try simp only [kP, kA, kZ, kS]
      refine tkY 5 (.bool false) ?_
      try simp only [kP, kA, kZ, kS]
      refine tkY 6 (.slice (some ⟨gr, or_, none⟩) xs.length d1) ?_
      try simp only [kP, kA, kZ, kS]
      refine tkY 7 (.int .i64 k) ?_
      try simp only [kP, kA, kZ, kS]
      refine tkY 8 (.pointer (some ⟨gr, or_ + k, none⟩)) ?_
      try simp only [kP, kA, kZ, kS]
      refine tkY 9 (.int .i64 rr) ?_
      try simp only [kP, kA, kZ, kS]
      refine tkY 10 (.pointer (some ⟨w.heap.size + 1 + 1, 0, none⟩)) ?_
      try simp only [kP, kA, kZ, kS]
      refine tkY 11 (.slice (some ⟨gt, ot, none⟩) l.length cp) ?_
      try simp only [kP, kA, kZ, kS]
      refine tkY 12 (.int .i64 l.length) ?_
      try simp only [kP, kA, kZ, kS]
      refine tkY 13 (.bool false) ?_
      try simp only [kP, kA, kZ, kS]
      refine tkY 14 (.bool false) ?_
      try simp only [kP, kA, kZ, kS]
      refine tkY 15 (.bool false) ?_
      try simp only [kP, kA, kZ, kS]
      refine tkY 16 (.slice (some ⟨gi, oi, none⟩) ims.length d2) ?_
      try simp only [kP, kA, kZ, kS]
      refine tkY 17 (.int .i64 k) ?_
      try simp only [kP, kA, kZ, kS]
      refine tkY 18 (.pointer (some ⟨gi, oi + k, none⟩)) ?_
      try simp only [kP, kA, kZ, kS]
      refine tkY 19 (.int .i64 zz) ?_
      try simp only [kP, kA, kZ, kS]
      refine tkY 20 (.bool false) ?_
      try simp only [kP, kA, kZ, kS]
      refine tkY 21 (.bool false) ?_
      try simp only [kP, kA, kZ, kS]
      refine tkY 22 (.bool false) ?_
      try simp only [kP, kA, kZ, kS]
      refine tkY 23 (.slice (some ⟨gi, oi, none⟩) ims.length d2) ?_
      try simp only [kP, kA, kZ, kS]
      refine tkY 24 (.int .i64 k) ?_
      try simp only [kP, kA, kZ, kS]
      refine tkY 25 (.pointer (some ⟨gi, oi + k, none⟩)) ?_
      try simp only [kP, kA, kZ, kS]
      refine tkY 26 (.int .i64 zz) ?_
      try simp only [kP, kA, kZ, kS]
      refine tkY 27 (.slice (some ⟨gx, ox, none⟩) u.length lx) ?_
      try simp only [kP, kA, kZ, kS]
      refine tkY 28 (.int .i64 u.length) ?_
      try simp only [kP, kA, kZ, kS]
      refine tkY 29 (.bool false) ?_
      try simp only [kP, kA, kZ, kS]
      refine tkY 30 (.bool false) ?_
      try simp only [kP, kA, kZ, kS]
      refine tkY 31 (.bool false) ?_
      try simp only [kP, kA, kZ, kS]
      refine tkY 32 (.pointer (some ⟨w5.heap.size, 0, none⟩)) ?_
      try simp only [kP, kA, kZ, kS]
      refine tkY 33 (.slice (some ⟨gc, oc, none⟩) u.length cz) ?_
      try simp only [kP, kA, kZ, kS]
      refine tkY 34 (.slice (some ⟨gi, oi, none⟩) ims.length d2) ?_
      try simp only [kP, kA, kZ, kS]
      refine tkY 35 (.int .i64 k) ?_
      try simp only [kP, kA, kZ, kS]
      refine tkY 36 (.pointer (some ⟨gi, oi + k, none⟩)) ?_
      try simp only [kP, kA, kZ, kS]
      refine tkY 37 (.int .i64 zz) ?_
      try simp only [kP, kA, kZ, kS]
      refine tkY 38 (.pointer (some ⟨gc, oc + zz * 8, none⟩)) ?_
      try simp only [kP, kA, kZ, kS]
      refine tkY 39 (.pointer (some ⟨gc, oc + zz * 8 + 5, none⟩)) ?_
      try simp only [kP, kA, kZ, kS]
      refine tkY 40 (.int .i64 sr) ?_
      try simp only [kP, kA, kZ, kS]
      refine tkY 41 (.pointer (some ⟨w.heap.size + 1 + 1, 0, none⟩)) ?_
      try simp only [kP, kA, kZ, kS]
      refine tkY 42 (.slice (some ⟨gt, ot, none⟩) l.length cp) ?_
      try simp only [kP, kA, kZ, kS]
      refine tkY 43 (.slice (some ⟨gr, or_, none⟩) xs.length d1) ?_
      try simp only [kP, kA, kZ, kS]
      refine tkY 44 (.int .i64 k) ?_
      try simp only [kP, kA, kZ, kS]
      refine tkY 45 (.pointer (some ⟨gr, or_ + k, none⟩)) ?_
      try simp only [kP, kA, kZ, kS]
      refine tkY 46 (.int .i64 rr) ?_
      try simp only [kP, kA, kZ, kS]
      refine tkY 47 (.pointer (some ⟨gt, ot + rr * 8, none⟩)) ?_
      try simp only [kP, kA, kZ, kS]
      refine tkY 48 (.pointer (some ⟨gt, ot + rr * 8 + 5, none⟩)) ?_
      try simp only [kP, kA, kZ, kS]
      refine tkY 49 (.int .i64 sr) ?_
      try simp only [kP, kA, kZ, kS]
      refine tkY 50 (.bool false) ?_
      try simp only [kP, kA, kZ, kS]
      refine tkY 51 (.bool false) ?_
      try simp only [kP, kA, kZ, kS]
      refine wpAnyH_done (by kernel_rfl) ?_ _
      go_wp2_with fail
      cases ob with
      | true =>
        refine wp_region_held_drew (S := fun V => V.cell? ⟨gr, or_ + k, none⟩ = some (.int .i64 rr) ∧ V.cell? ⟨gi, oi + k, none⟩ = some (.int .i64 zz) ∧ V.cell? ⟨w.heap.size + 1 + 1, 0, none⟩ = some (.slice (some ⟨gt, ot, none⟩) l.length cp) ∧ V.cell? ⟨w5.heap.size, 0, none⟩ = some (.slice (some ⟨gc, oc, none⟩) u.length cz) ∧ V.cell? ⟨gt, ot + rr * 8 + 5, none⟩ = some (.int .i64 sr) ∧ V.cell? ⟨gc, oc + zz * 8 + 5, none⟩ = some (.int .i64 sr) ∧ V.cell? ⟨go, oo + rr, none⟩ = some (.bool true) ∧ V.cell? ⟨gp, op + zz, none⟩ = some (.bool pb) ∧ V.cell? ⟨gv, ov + rr, none⟩ = some (.int .i64 va) ∧ V.cell? ⟨gx, ox + zz, none⟩ = some (.int .i64 vb)) (by kernel_rfl) (HQ.out _ (Below.refl _ _).drew.drew) (fun hHeld => ?_)
        refine tkY 0 (.slice (some ⟨go, oo, none⟩) l.length lo) ?_
        try simp only [kP, kA, kZ, kS]
        refine tkY 1 (.slice (some ⟨gr, or_, none⟩) xs.length d1) ?_
        try simp only [kP, kA, kZ, kS]
        refine tkY 2 (.int .i64 k) ?_
        try simp only [kP, kA, kZ, kS]
        refine tkY 3 (.pointer (some ⟨gr, or_ + k, none⟩)) ?_
        try simp only [kP, kA, kZ, kS]
        refine tkY 4 (.int .i64 rr) ?_
        try simp only [kP, kA, kZ, kS]
        refine tkY 5 (.pointer (some ⟨go, oo + rr, none⟩)) ?_
        try simp only [kP, kA, kZ, kS]
        refine tkY 6 (.bool true) ?_
        try simp only [kP, kA, kZ, kS]
        refine tkY 7 (.bool false) ?_
        try simp only [kP, kA, kZ, kS]
        refine tkY 8 (.bool false) ?_
        try simp only [kP, kA, kZ, kS]
        refine tkN 9 ?_
        try simp only [kP, kA, kZ, kS]
        refine tkN 10 ?_
        try simp only [kP, kA, kZ, kS]
        refine tkN 11 ?_
        try simp only [kP, kA, kZ, kS]
        refine tkN 12 ?_
        try simp only [kP, kA, kZ, kS]
        refine tkN 13 ?_
        try simp only [kP, kA, kZ, kS]
        refine tkN 14 ?_
        try simp only [kP, kA, kZ, kS]
        refine tkN 15 ?_
        try simp only [kP, kA, kZ, kS]
        refine tkN 16 ?_
        try simp only [kP, kA, kZ, kS]
        refine tkY 17 (.bool false) ?_
        try simp only [kP, kA, kZ, kS]
        refine tkY 18 (.bool false) ?_
        try simp only [kP, kA, kZ, kS]
        refine tkN 19 ?_
        try simp only [kP, kA, kZ, kS]
        refine tkN 20 ?_
        try simp only [kP, kA, kZ, kS]
        refine tkN 21 ?_
        try simp only [kP, kA, kZ, kS]
        refine tkN 22 ?_
        try simp only [kP, kA, kZ, kS]
        refine tkN 23 ?_
        try simp only [kP, kA, kZ, kS]
        refine tkN 24 ?_
        try simp only [kP, kA, kZ, kS]
        refine tkN 25 ?_
        try simp only [kP, kA, kZ, kS]
        refine tkN 26 ?_
        try simp only [kP, kA, kZ, kS]
        refine tkN 27 ?_
        try simp only [kP, kA, kZ, kS]
        refine tkN 28 ?_
        try simp only [kP, kA, kZ, kS]
        refine tkN 29 ?_
        try simp only [kP, kA, kZ, kS]
        refine tkN 30 ?_
        try simp only [kP, kA, kZ, kS]
        refine tkN 31 ?_
        try simp only [kP, kA, kZ, kS]
        refine tkN 32 ?_
        try simp only [kP, kA, kZ, kS]
        refine tkN 33 ?_
        try simp only [kP, kA, kZ, kS]
        refine tkY 34 (.bool false) ?_
        try simp only [kP, kA, kZ, kS]
        refine wpAnyH_done (by kernel_rfl) ?_ _
        go_wp2_with fail
        go_roundw
        case rel => exact ⟨k + 1, by omega, by go_num, HB2⟩
        case measure => simp [intOf]; omega
      | false =>
        obtain rfl := HVal.out rfl
        cases pb with
        | true =>
          refine wp_region_held_drew (S := fun V => V.cell? ⟨gr, or_ + k, none⟩ = some (.int .i64 rr) ∧ V.cell? ⟨gi, oi + k, none⟩ = some (.int .i64 zz) ∧ V.cell? ⟨w.heap.size + 1 + 1, 0, none⟩ = some (.slice (some ⟨gt, ot, none⟩) l.length cp) ∧ V.cell? ⟨w5.heap.size, 0, none⟩ = some (.slice (some ⟨gc, oc, none⟩) u.length cz) ∧ V.cell? ⟨gt, ot + rr * 8 + 5, none⟩ = some (.int .i64 sr) ∧ V.cell? ⟨gc, oc + zz * 8 + 5, none⟩ = some (.int .i64 sr) ∧ V.cell? ⟨go, oo + rr, none⟩ = some (.bool false) ∧ V.cell? ⟨gp, op + zz, none⟩ = some (.bool true) ∧ V.cell? ⟨gv, ov + rr, none⟩ = some (.int .i64 vb) ∧ V.cell? ⟨gx, ox + zz, none⟩ = some (.int .i64 vb)) (by kernel_rfl) (HQ.out _ (Below.refl _ _).drew.drew) (fun hHeld => ?_)
          refine tkY 0 (.slice (some ⟨go, oo, none⟩) l.length lo) ?_
          try simp only [kP, kA, kZ, kS]
          refine tkY 1 (.slice (some ⟨gr, or_, none⟩) xs.length d1) ?_
          try simp only [kP, kA, kZ, kS]
          refine tkY 2 (.int .i64 k) ?_
          try simp only [kP, kA, kZ, kS]
          refine tkY 3 (.pointer (some ⟨gr, or_ + k, none⟩)) ?_
          try simp only [kP, kA, kZ, kS]
          refine tkY 4 (.int .i64 rr) ?_
          try simp only [kP, kA, kZ, kS]
          refine tkY 5 (.pointer (some ⟨go, oo + rr, none⟩)) ?_
          try simp only [kP, kA, kZ, kS]
          refine tkY 6 (.bool false) ?_
          try simp only [kP, kA, kZ, kS]
          refine tkY 7 (.bool true) ?_
          try simp only [kP, kA, kZ, kS]
          refine tkY 8 (.bool true) ?_
          try simp only [kP, kA, kZ, kS]
          refine tkY 9 (.slice (some ⟨gp, op, none⟩) u.length lp) ?_
          try simp only [kP, kA, kZ, kS]
          refine tkY 10 (.slice (some ⟨gi, oi, none⟩) ims.length d2) ?_
          try simp only [kP, kA, kZ, kS]
          refine tkY 11 (.int .i64 k) ?_
          try simp only [kP, kA, kZ, kS]
          refine tkY 12 (.pointer (some ⟨gi, oi + k, none⟩)) ?_
          try simp only [kP, kA, kZ, kS]
          refine tkY 13 (.int .i64 zz) ?_
          try simp only [kP, kA, kZ, kS]
          refine tkY 14 (.pointer (some ⟨gp, op + zz, none⟩)) ?_
          try simp only [kP, kA, kZ, kS]
          refine tkY 15 (.bool true) ?_
          try simp only [kP, kA, kZ, kS]
          refine tkY 16 (.bool false) ?_
          try simp only [kP, kA, kZ, kS]
          refine tkY 17 (.bool false) ?_
          try simp only [kP, kA, kZ, kS]
          refine tkY 18 (.bool false) ?_
          try simp only [kP, kA, kZ, kS]
          refine tkN 19 ?_
          try simp only [kP, kA, kZ, kS]
          refine tkN 20 ?_
          try simp only [kP, kA, kZ, kS]
          refine tkN 21 ?_
          try simp only [kP, kA, kZ, kS]
          refine tkN 22 ?_
          try simp only [kP, kA, kZ, kS]
          refine tkN 23 ?_
          try simp only [kP, kA, kZ, kS]
          refine tkN 24 ?_
          try simp only [kP, kA, kZ, kS]
          refine tkN 25 ?_
          try simp only [kP, kA, kZ, kS]
          refine tkN 26 ?_
          try simp only [kP, kA, kZ, kS]
          refine tkN 27 ?_
          try simp only [kP, kA, kZ, kS]
          refine tkN 28 ?_
          try simp only [kP, kA, kZ, kS]
          refine tkN 29 ?_
          try simp only [kP, kA, kZ, kS]
          refine tkN 30 ?_
          try simp only [kP, kA, kZ, kS]
          refine tkN 31 ?_
          try simp only [kP, kA, kZ, kS]
          refine tkN 32 ?_
          try simp only [kP, kA, kZ, kS]
          refine tkN 33 ?_
          try simp only [kP, kA, kZ, kS]
          refine tkY 34 (.bool false) ?_
          try simp only [kP, kA, kZ, kS]
          refine wpAnyH_done (by kernel_rfl) ?_ _
          go_wp2_with fail
          go_roundw
          case rel => exact ⟨k + 1, by omega, by go_num, HB2⟩
          case measure => simp [intOf]; omega
        | false =>
          refine wp_region_held_drew (S := fun V => V.cell? ⟨gr, or_ + k, none⟩ = some (.int .i64 rr) ∧ V.cell? ⟨gi, oi + k, none⟩ = some (.int .i64 zz) ∧ V.cell? ⟨w.heap.size + 1 + 1, 0, none⟩ = some (.slice (some ⟨gt, ot, none⟩) l.length cp) ∧ V.cell? ⟨w5.heap.size, 0, none⟩ = some (.slice (some ⟨gc, oc, none⟩) u.length cz) ∧ V.cell? ⟨gt, ot + rr * 8 + 5, none⟩ = some (.int .i64 sr) ∧ V.cell? ⟨gc, oc + zz * 8 + 5, none⟩ = some (.int .i64 sr) ∧ V.cell? ⟨go, oo + rr, none⟩ = some (.bool false) ∧ V.cell? ⟨gp, op + zz, none⟩ = some (.bool false) ∧ V.cell? ⟨gv, ov + rr, none⟩ = some (.int .i64 vb) ∧ V.cell? ⟨gx, ox + zz, none⟩ = some (.int .i64 vb)) (by kernel_rfl) (HQ.out _ (Below.refl _ _).drew.drew) (fun hHeld => ?_)
          refine tkY 0 (.slice (some ⟨go, oo, none⟩) l.length lo) ?_
          try simp only [kP, kA, kZ, kS]
          refine tkY 1 (.slice (some ⟨gr, or_, none⟩) xs.length d1) ?_
          try simp only [kP, kA, kZ, kS]
          refine tkY 2 (.int .i64 k) ?_
          try simp only [kP, kA, kZ, kS]
          refine tkY 3 (.pointer (some ⟨gr, or_ + k, none⟩)) ?_
          try simp only [kP, kA, kZ, kS]
          refine tkY 4 (.int .i64 rr) ?_
          try simp only [kP, kA, kZ, kS]
          refine tkY 5 (.pointer (some ⟨go, oo + rr, none⟩)) ?_
          try simp only [kP, kA, kZ, kS]
          refine tkY 6 (.bool false) ?_
          try simp only [kP, kA, kZ, kS]
          refine tkY 7 (.bool true) ?_
          try simp only [kP, kA, kZ, kS]
          refine tkY 8 (.bool true) ?_
          try simp only [kP, kA, kZ, kS]
          refine tkY 9 (.slice (some ⟨gp, op, none⟩) u.length lp) ?_
          try simp only [kP, kA, kZ, kS]
          refine tkY 10 (.slice (some ⟨gi, oi, none⟩) ims.length d2) ?_
          try simp only [kP, kA, kZ, kS]
          refine tkY 11 (.int .i64 k) ?_
          try simp only [kP, kA, kZ, kS]
          refine tkY 12 (.pointer (some ⟨gi, oi + k, none⟩)) ?_
          try simp only [kP, kA, kZ, kS]
          refine tkY 13 (.int .i64 zz) ?_
          try simp only [kP, kA, kZ, kS]
          refine tkY 14 (.pointer (some ⟨gp, op + zz, none⟩)) ?_
          try simp only [kP, kA, kZ, kS]
          refine tkY 15 (.bool false) ?_
          try simp only [kP, kA, kZ, kS]
          refine tkY 16 (.bool true) ?_
          try simp only [kP, kA, kZ, kS]
          refine tkY 17 (.bool true) ?_
          try simp only [kP, kA, kZ, kS]
          refine tkY 18 (.bool true) ?_
          try simp only [kP, kA, kZ, kS]
          refine tkY 19 (.slice (some ⟨gv, ov, none⟩) l.length lv) ?_
          try simp only [kP, kA, kZ, kS]
          refine tkY 20 (.slice (some ⟨gr, or_, none⟩) xs.length d1) ?_
          try simp only [kP, kA, kZ, kS]
          refine tkY 21 (.int .i64 k) ?_
          try simp only [kP, kA, kZ, kS]
          refine tkY 22 (.pointer (some ⟨gr, or_ + k, none⟩)) ?_
          try simp only [kP, kA, kZ, kS]
          refine tkY 23 (.int .i64 rr) ?_
          try simp only [kP, kA, kZ, kS]
          refine tkY 24 (.pointer (some ⟨gv, ov + rr, none⟩)) ?_
          try simp only [kP, kA, kZ, kS]
          refine tkY 25 (.int .i64 vb) ?_
          try simp only [kP, kA, kZ, kS]
          refine tkY 26 (.slice (some ⟨gx, ox, none⟩) u.length lx) ?_
          try simp only [kP, kA, kZ, kS]
          refine tkY 27 (.slice (some ⟨gi, oi, none⟩) ims.length d2) ?_
          try simp only [kP, kA, kZ, kS]
          refine tkY 28 (.int .i64 k) ?_
          try simp only [kP, kA, kZ, kS]
          refine tkY 29 (.pointer (some ⟨gi, oi + k, none⟩)) ?_
          try simp only [kP, kA, kZ, kS]
          refine tkY 30 (.int .i64 zz) ?_
          try simp only [kP, kA, kZ, kS]
          refine tkY 31 (.pointer (some ⟨gx, ox + zz, none⟩)) ?_
          try simp only [kP, kA, kZ, kS]
          refine tkY 32 (.int .i64 vb) ?_
          try simp only [kP, kA, kZ, kS]
          refine tkY 33 (.bool false) ?_
          try simp only [kP, kA, kZ, kS]
          refine tkY 34 (.bool false) ?_
          try simp only [kP, kA, kZ, kS]
          refine wpAnyH_done (by kernel_rfl) ?_ _
          go_wp2_with fail
          go_roundw
          case rel => exact ⟨k + 1, by omega, by go_num, HB2⟩
          case measure => simp [intOf]; omega
    · obtain rfl : k = ims.length := by omega
      have HBr : Hid (Below W0.heap.size W0 wr) := (HU6.out _ (HB8.out.trans (HR.out.mono HB8.out.size))).2.1
      go_wp2_with fail
      refine (HWk.out _ HBr.out).mono ?_
      rintro e w9 ⟨rfl, hb9⟩
      go_wp2_with fail
      go_ret
      exact ⟨rfl, HU.out _ hb9⟩
end Go.Proofs.YtfbjgadgfjnamaaGreatDoor
