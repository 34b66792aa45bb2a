/- OffsetHolds, walked. -/
import Derived.Test.YtinogambkfihpaaDoorHdY
import Derived.Test.YtinogambkfihpaaDoorOfK
import Derived.Test.YtinogambkfihpaaDoorSgY
namespace Go.Proofs.YtinogambkfihpaaDoor
open Go.RowKit
open Tm (NodeA NodeOk TabR mayT)
set_option linter.unusedVariables false
theorem bits_at {w : World} {L : List (Int × Bool)} {a : Option Addr} (h : At w w.heap.size (L.flatMap bitL) a) {i : Nat} (hi : i < L.length) : ∃ g o : Nat, a = some ⟨g, o, none⟩ ∧ ∀ V, Below w.heap.size w V → g < V.heap.size ∧ ∀ j : Nat, j < L.length → V.cell? ⟨g, o + j, none⟩ = some (.bool (atV L j).2) := by
  obtain ⟨g, o, e, hg, hc⟩ := h (by rw [len_flat bitL_len]; omega)
  refine ⟨g, o, e, fun V hV => ⟨Nat.lt_of_lt_of_le hg hV.size, fun j hj => (hV.cell (p := ⟨g, o + j, none⟩) hg).trans ?_⟩⟩
  have h1 := get_flat bitL_len L j 0 (atV L j) (atV_get hj) (by omega)
  rw [Nat.mul_one, Nat.add_zero] at h1
  exact hc j _ (h1.trans rfl)
theorem vals_at {w : World} {L : List (Int × Bool)} {a : Option Addr} (h : At w w.heap.size (L.flatMap valL) a) {i : Nat} (hi : i < L.length) : ∃ g o : Nat, a = some ⟨g, o, none⟩ ∧ ∀ V, Below w.heap.size w V → g < V.heap.size ∧ ∀ j : Nat, j < L.length → V.cell? ⟨g, o + j, none⟩ = some (.int .i64 (atV L j).1) := by
  obtain ⟨g, o, e, hg, hc⟩ := h (by rw [len_flat valL_len]; omega)
  refine ⟨g, o, e, fun V hV => ⟨Nat.lt_of_lt_of_le hg hV.size, fun j hj => (hV.cell (p := ⟨g, o + j, none⟩) hg).trans ?_⟩⟩
  have h1 := get_flat valL_len L j 0 (atV L j) (atV_get hj) (by omega)
  rw [Nat.mul_one, Nat.add_zero] at h1
  exact hc j _ (h1.trans rfl)
theorem le_len {t : List NodeA} {a b c : Int} (h : (Tm.leP t a b c 1000).2.2.2 = 0) : (Tm.leP t a b c 1000).1.length ≤ t.length + 1 ∧ t.length ≤ (Tm.leP t a b c 1000).1.length ∧ ∃ k : Nat, (Tm.leP t a b c 1000).2.1 = (k : Int) ∧ k < (Tm.leP t a b c 1000).1.length := by
  obtain ⟨_, e1, e2, e3⟩ := le_parts h
  obtain ⟨m, e4, hx⟩ := Tm.put_ext e3
  rw [← e1] at hx
  exact ⟨hx.le.2, hx.le.1, m, e2.trans e4, (List.getElem?_eq_some_iff.1 hx.at_).1⟩
theorem evK_i64 {w : World} {x : SigV} {y : WorV} (hY : WorR w y) {t : List NodeA} (ht : ∀ n ∈ t, NodeOk n) : ∀ {k : Nat}, k ≤ t.length → ∀ p ∈ evK x y t k, I64 p.1
  | 0, _, p, hp => by simp [evK] at hp
  | k + 1, hk, p, hp => by
    rcases List.mem_append.1 (show p ∈ evK x y t k ++ [stepV x y (evK x y t k) (t.getD k Tm.trueN)] from hp) with h | h
    · exact evK_i64 hY ht (by omega) p h
    · rw [List.mem_singleton.1 h]
      refine stepV_i64 hY (evK_i64 hY ht (by omega)) (ht _ ?_)
      rw [List.getD_eq_getElem?_getD, List.getElem?_eq_getElem (by omega)]
      exact List.getElem_mem _
theorem atV_i64 {L : List (Int × Bool)} (h : ∀ p ∈ L, I64 p.1) (i : Int) : I64 (atV L i).1 := by
  unfold atV
  cases e : L[i.toNat]? with
  | none => exact ⟨by decide, by decide⟩
  | some p => exact h p (List.mem_of_getElem? e)
set_option maxRecDepth 100000 in
set_option maxHeartbeats 8000000 in
theorem OffsetHolds_c (w : World) (x : SigV) (hX : SigR w x) (y : WorV) (hY : WorR w y) (l : List NodeA) (ad : Option Addr) (cp : Nat) (hA : TabR w l ad cp) (a : Int) (ha : I64 a) (b : Int) (hb : I64 b) (c : Int) (hc : I64 c) (hG : Tm.GT w) :
    Calls Tryd.prog 3 #[.agg #[.slice x.sa x.sorts.length x.sc, .slice x.fa x.funs.length x.fc, .slice x.ma x.macs.length x.mc], .agg #[.slice y.sa y.sizes.length y.sc, .slice y.fa y.funs.length y.fc], .agg #[.slice ad l.length cp], .int .i64 a, .int .i64 b, .int .i64 c] w fun e w' => e = .returned (.bool true) ∧ Below w.heap.size w w' := by
  have hlm : l.length ≤ 9223372036854775807 := by have h1 := hA.le; have h2 := hA.cap; simp only [maxLen] at h2; omega
  obtain ⟨W0, hW0⟩ : ∃ W0, W0 = ((w.alloc (.cells #[.slice x.sa x.sorts.length x.sc, .slice x.fa x.funs.length x.fc, .slice x.ma x.macs.length x.mc] 26)).alloc (.cells #[.slice y.sa y.sizes.length y.sc, .slice y.fa y.funs.length y.fc] 30)).alloc (.cells #[.slice ad l.length cp] 33) := ⟨_, rfl⟩
  have hB0 : Below w.heap.size w W0 := by rw [hW0]; exact (((Below.refl _ w).alloc (Nat.le_refl _) _).alloc (by simp) _).alloc (by simp; omega) _
  have HB0 := Lib.hid hB0
  have hX0 : W0.heap[w.heap.size]? = some (.cells #[.slice x.sa x.sorts.length x.sc, .slice x.fa x.funs.length x.fc, .slice x.ma x.macs.length x.mc] 26 (0, 0)) := by
    rw [hW0]
    exact ((Below.heap_alloc _ _ _ (by simp; omega)).trans (Below.heap_alloc _ _ _ (by simp))).trans (heap_alloc_new w _)
  have hY0 : W0.heap[w.heap.size + 1]? = some (.cells #[.slice y.sa y.sizes.length y.sc, .slice y.fa y.funs.length y.fc] 30 (0, 0)) := by
    have := heap_alloc_new (w.alloc (.cells #[.slice x.sa x.sorts.length x.sc, .slice x.fa x.funs.length x.fc, .slice x.ma x.macs.length x.mc] 26)) (.cells #[.slice y.sa y.sizes.length y.sc, .slice y.fa y.funs.length y.fc] 30)
    rw [World.size_alloc] at this
    rw [hW0]
    exact (Below.heap_alloc _ _ _ (by simp)).trans this
  have hT0 : W0.heap[w.heap.size + 1 + 1]? = some (.cells #[.slice ad l.length cp] 33 (0, 0)) := by
    have := heap_alloc_new ((w.alloc (.cells #[.slice x.sa x.sorts.length x.sc, .slice x.fa x.funs.length x.fc, .slice x.ma x.macs.length x.mc] 26)).alloc (.cells #[.slice y.sa y.sizes.length y.sc, .slice y.fa y.funs.length y.fc] 30)) (.cells #[.slice ad l.length cp] 33)
    rw [World.size_alloc, World.size_alloc] at this
    rw [hW0]
    exact this
  have HK : Hid (∀ V, Below W0.heap.size W0 V → V.cell? ⟨w.heap.size, 0, none⟩ = some (.slice x.sa x.sorts.length x.sc) ∧ V.cell? ⟨w.heap.size, 1, none⟩ = some (.slice x.fa x.funs.length x.fc) ∧ V.cell? ⟨w.heap.size, 2, none⟩ = some (.slice x.ma x.macs.length x.mc) ∧ V.cell? ⟨w.heap.size + 1, 0, none⟩ = some (.slice y.sa y.sizes.length y.sc) ∧ V.cell? ⟨w.heap.size + 1, 1, none⟩ = some (.slice y.fa y.funs.length y.fc) ∧ V.cell? ⟨w.heap.size + 1 + 1, 0, none⟩ = some (.slice ad l.length cp) ∧ w.heap.size + 1 + 1 < V.heap.size) := fun V hV => by
    obtain ⟨c0, c1, c2, _⟩ := sig_cells ((hV.block _ (Array.getElem?_eq_some_iff.1 hX0).1).trans hX0)
    obtain ⟨y0, y1, _⟩ := wor_cells ((hV.block _ (Array.getElem?_eq_some_iff.1 hY0).1).trans hY0)
    have h := (hV.block _ (Array.getElem?_eq_some_iff.1 hT0).1).trans hT0
    exact ⟨c0, c1, c2, y0, y1, (cell_of_row _ _ 0 _ _ _ h).trans rfl, (Array.getElem?_eq_some_iff.1 h).1⟩
  have HU : Hid (∀ V, Below W0.heap.size W0 V → Below w.heap.size w V) := fun V hV => hB0.trans (hV.mono hB0.size)
  have HX : Hid (∀ V, Below W0.heap.size W0 V → SigR V x) := fun V hV => hX.below (HU.out V hV)
  have HY : Hid (∀ V, Below W0.heap.size W0 V → WorR V y) := fun V hV => hY.below (HU.out V hV)
  have HTA : Hid (∀ V, Below W0.heap.size W0 V → TabR V l ad cp) := fun V hV => hA.below (HU.out V hV)
  have HG : Hid (∀ V, Below W0.heap.size W0 V → Tm.GT V) := fun V hV => hG.below (HU.out V hV)
  have HWk : Hid (∀ V, Below W0.heap.size W0 V → Calls Tryd.prog 7 #[] V fun e w' => e = .returned (.bool true) ∧ Below W0.heap.size W0 w') := fun V hV => (Tm.wakes_any V (HG.out V hV)).mono fun e w' ⟨h1, h2⟩ => ⟨h1, hV.trans (h2.mono hV.size)⟩
  have HWk2 : Hid (∀ V, Below W0.heap.size W0 V → Calls Tryd.prog 7 #[] V fun e w' => e = .returned (.bool true) ∧ Below V.heap.size V w') := fun V hV => Tm.wakes_any V (HG.out V hV)
  have HGs : Hid (∀ V, Below W0.heap.size W0 V → Calls Tryd.prog 5 #[.agg #[.slice x.sa x.sorts.length x.sc, .slice x.fa x.funs.length x.fc, .slice x.ma x.macs.length x.mc]] V fun e w' => ∃ q, e = .returned (.bool q) ∧ Below W0.heap.size W0 w') := fun V hV => (Great_any x V (HX.out V hV)).mono fun e w' ⟨⟨q, h1⟩, h2⟩ => ⟨q, h1, hV.trans (h2.mono hV.size)⟩
  have HGw : Hid (∀ q, worGreat y = q → ∀ V, Below W0.heap.size W0 V → Calls Tryd.prog 6 #[.agg #[.slice y.sa y.sizes.length y.sc, .slice y.fa y.funs.length y.fc]] V fun e w' => e = .returned (.bool q) ∧ Below W0.heap.size W0 w') := fun q hq V hV => (WGreat_any y q V (HY.out V hV) hq).mono fun e w' ⟨h1, h2⟩ => ⟨h1, hV.trans (h2.mono hV.size)⟩
  have HGt : Hid (∀ q, decide (300 < l.length) = q → ∀ V, Below W0.heap.size W0 V → Calls Tryd.prog 4 #[.agg #[.slice ad l.length cp]] V fun e w' => e = .returned (.bool q) ∧ Below W0.heap.size W0 w') := fun q hq V hV => (Tm.Great_any l ad cp q V hlm hq).mono fun e w' ⟨h1, h2⟩ => ⟨h1, hV.trans (h2.mono hV.size)⟩
  clear hX0 hY0 hT0 hX hY hA hG hB0
  obtain ⟨c0, c1, c2, y0, y1, t0, z0⟩ := HK.out _ (Below.refl _ W0)
  cases hgr : decide (300 < l.length) with
  | true =>
    have HGq := Lib.hid (HGt.out _ hgr)
    clear hgr
    go_enter Tryd.func3, Tryd.ntmps3
    go_wp2_with (first | (go_at_call 4; rw [← hW0]; clear hW0; refine (HGq.out _ (Below.refl _ _)).mono ?_; rintro e w1 ⟨rfl, hb1⟩; have HB1 := Lib.hid hb1; clear hb1; clear c0 c1 c2 y0 y1 t0 z0; obtain ⟨c0, c1, c2, y0, y1, t0, z0⟩ := HK.out _ HB1.out) | (go_at_call 7; refine (HWk.out _ HB1.out).mono ?_; rintro e w9 ⟨rfl, hb9⟩))
    go_ret
    exact ⟨rfl, HU.out _ hb9⟩
  | false =>
  have hl3 : l.length ≤ 300 := by have := of_decide_eq_false hgr; omega
  have HGq := Lib.hid (HGt.out _ hgr)
  obtain ⟨qw, hqw⟩ : ∃ q, worGreat y = q := ⟨_, rfl⟩
  have HGr := Lib.hid (HGw.out _ hqw)
  obtain ⟨r1, hr1⟩ : ∃ r, Tm.leP l a b c 1000 = r := ⟨_, rfl⟩
  have HLe : Hid (∀ V, Below W0.heap.size W0 V → Calls Tryd.prog 8 #[.agg #[.slice ad l.length cp], .int .i64 a, .int .i64 b, .int .i64 c, .int .i64 1000] V (Tm.LeOut V r1)) := fun V hV => Tm.Le_any l ad cp a b c 1000 r1 V (HG.out V hV) (HTA.out V hV) (by omega) ha hb hc ⟨by decide, by decide⟩ hr1
  clear hgr hqw
  go_enter Tryd.func3, Tryd.ntmps3
  go_wp2_with (go_at_call 4; rw [← hW0]; clear hW0; refine (HGq.out _ (Below.refl _ _)).mono ?_; rintro e w1 ⟨rfl, hb1⟩; have HB1 := Lib.hid hb1; clear hb1; clear c0 c1 c2 y0 y1 t0 z0; obtain ⟨c0, c1, c2, y0, y1, t0, z0⟩ := HK.out _ HB1.out)
  refine (HGs.out _ HB1.out).mono ?_
  rintro e w2 ⟨q2, rfl, hb2⟩
  have HB2 := Lib.hid hb2
  clear hb2
  clear c0 c1 c2 y0 y1 t0 z0; obtain ⟨c0, c1, c2, y0, y1, t0, z0⟩ := HK.out _ HB2.out
  cases q2 with
  | true =>
    go_wp2_with (go_at_call 7; refine (HWk.out _ HB2.out).mono ?_; rintro e w9 ⟨rfl, hb9⟩)
    go_ret
    exact ⟨rfl, HU.out _ hb9⟩
  | false =>
  go_wp2_with fail
  refine (HGr.out _ HB2.out).mono ?_
  rintro e w3 ⟨rfl, hb3⟩
  have HB3 := Lib.hid hb3
  clear hb3
  clear c0 c1 c2 y0 y1 t0 z0; obtain ⟨c0, c1, c2, y0, y1, t0, z0⟩ := HK.out _ HB3.out
  cases qw with
  | true =>
    go_wp2_with (go_at_call 7; refine (HWk.out _ HB3.out).mono ?_; rintro e w9 ⟨rfl, hb9⟩)
    go_ret
    exact ⟨rfl, HU.out _ hb9⟩
  | false =>
  go_wp2_with fail
  refine (HLe.out _ HB3.out).mono ?_
  rintro e w4 ⟨a4, c4, rfl, hT4, hb4⟩
  by_cases h1 : r1.2.2.2 = 0
  rotate_left
  · obtain ⟨L1, i1, k1, e1⟩ := r1
    have e0 := ne_true h1
    simp only at e0
    have X4 := Lib.hid (HB3.out.trans (hb4.mono HB3.out.size))
    have X5 : Hid (∀ o, Below W0.heap.size W0 (w4.alloc o)) := fun o => X4.out.alloc X4.out.size _
    clear hr1 h1 hT4 hb4 c0 c1 c2 y0 y1 t0 z0
    go_wp2_with (go_at_call 7; refine (HWk.out _ (X5.out _)).mono ?_; rintro e w9 ⟨rfl, hb9⟩)
    go_ret
    exact ⟨rfl, HU.out _ hb9⟩
  have hP : ∀ k : Int, r1.2.1 = k → valE x y r1.1 = 0 → (atV (evK x y r1.1 r1.1.length) a).2 = false → (atV (evK x y r1.1 r1.1.length) b).2 = false → (atV (evK x y r1.1 r1.1.length) k).2 = false → decide ((atV (evK x y r1.1 r1.1.length) k).1 = 1) = atM (atV (evK x y r1.1 r1.1.length) a).1 (atV (evK x y r1.1 r1.1.length) b).1 c := fun k hk hv h2 h3 h4 => holds_ok (by rw [hr1]; exact h1) (by rw [hr1]) (by rw [hr1]; exact hk) hv h2 h3 h4
  have HP := Lib.hid hP
  have hll := le_len (t := l) (a := a) (b := b) (c := c) (by rw [hr1]; exact h1)
  have hdk := (le_parts (t := l) (a := a) (b := b) (c := c) (by rw [hr1]; exact h1)).1
  rw [hr1] at hll
  obtain ⟨hl1, hl2, k, hk, hkl⟩ := hll
  obtain ⟨pa0, pa1⟩ := Tm.ofP_in hdk.oa
  obtain ⟨pb0, pb1⟩ := Tm.ofP_in hdk.ob
  obtain ⟨i, rfl⟩ : ∃ i : Nat, a = i := ⟨a.toNat, by omega⟩
  obtain ⟨j, rfl⟩ : ∃ j : Nat, b = j := ⟨b.toNat, by omega⟩
  clear hP hdk
  obtain ⟨u, id, bb, e1⟩ := r1
  simp only at h1 hk hl1 hl2 hkl HP
  subst h1
  subst hk
  have X4 := Lib.hid (HB3.out.trans (hb4.mono HB3.out.size))
  have HT4 : Hid (TabR w4 u a4 c4) := hT4
  have hiu : (i : Int) < (u.length : Int) := by omega
  have hju : (j : Int) < (u.length : Int) := by omega
  have hku : (k : Int) < (u.length : Int) := by omega
  have hi0 : (0 : Int) ≤ (i : Int) := by omega
  have hj0 : (0 : Int) ≤ (j : Int) := by omega
  have hk0 : (0 : Int) ≤ (k : Int) := by omega
  have HUo := Lib.hid hT4.ok
  obtain ⟨W5, hW5⟩ : ∃ W5, W5 = w4.alloc (.cells #[.slice a4 u.length c4] 33) := ⟨_, rfl⟩
  have hb5 : Below w4.heap.size w4 W5 := by rw [hW5]; exact (Below.refl _ w4).alloc (Nat.le_refl _) _
  have X5 : Hid (Below W0.heap.size W0 W5) := X4.out.trans (hb5.mono X4.out.size)
  have hu5 : W5.heap[w4.heap.size]? = some (.cells #[.slice a4 u.length c4] 33 (0, 0)) := by rw [hW5]; exact heap_alloc_new w4 _
  have u5 : W5.cell? ⟨w4.heap.size, 0, none⟩ = some (.slice a4 u.length c4) := (cell_of_row _ _ 0 _ _ _ hu5).trans rfl
  have uz := (Array.getElem?_eq_some_iff.1 hu5).1
  have HVa : Hid (Calls Tryd.prog 9 #[.agg #[.slice x.sa x.sorts.length x.sc, .slice x.fa x.funs.length x.fc, .slice x.ma x.macs.length x.mc], .agg #[.slice y.sa y.sizes.length y.sc, .slice y.fa y.funs.length y.fc], .agg #[.slice a4 u.length c4]] W5 fun e w' => ValsPost W5 x y u e w') := RValues_any x y u a4 c4 W5 (HX.out _ X5.out) (HY.out _ X5.out) (hT4.below hb5) (by omega)
  clear hr1 hT4 hb4 hb5 hu5 c0 c1 c2 y0 y1 t0 z0
  obtain ⟨c0, c1, c2, y0, y1, t0, z0⟩ := HK.out _ X5.out
  rw [hW5] at c0 c1 c2 y0 y1 t0 u5
  go_wp2_with fail
  rw [← hW5]
  clear hW5
  refine HVa.out.mono ?_
  rintro e w6 ⟨hb6, hres⟩
  have HB6 : Hid (Below W0.heap.size W0 w6) := X5.out.trans (hb6.mono X5.out.size)
  clear hb6 c0 c1 c2 y0 y1 t0 z0 u5 uz
  rcases hres with ⟨hne, rfl⟩ | ⟨hv, la, lc, oa, oc, rfl, hla, hoa⟩
  · have e0 := ne_true hne
    generalize valE x y u = EE at *
    clear hne
    go_wp2_with (go_at_call 7; refine (HWk.out _ HB6.out).mono ?_; rintro e w9 ⟨rfl, hb9⟩)
    go_ret
    exact ⟨rfl, HU.out _ hb9⟩
  have HI : Hid (∀ i : Int, I64 (atV (evK x y u u.length) i).1) := fun i => atV_i64 (evK_i64 (HY.out _ HB6.out) HUo.out (Nat.le_refl _)) i
  obtain ⟨gl, ol, rfl, hgl⟩ := vals_at hla (i := k) (by rw [evK_len]; exact hkl)
  obtain ⟨go, oo, rfl, hgo⟩ := bits_at hoa (i := k) (by rw [evK_len]; exact hkl)
  rw [evK_len] at hgl hgo
  obtain ⟨zl, hgl'⟩ := hgl _ (Below.refl _ _)
  obtain ⟨zo, hgo'⟩ := hgo _ (Below.refl _ _)
  have la1 := hgl' i (by omega)
  have lb1 := hgl' j (by omega)
  have lk1 := hgl' k (by omega)
  have oa1 := hgo' i (by omega)
  have ob1 := hgo' j (by omega)
  have ok1 := hgo' k (by omega)
  have HP2 := Lib.hid (HP.out k rfl hv)
  generalize evK x y u u.length = E at *
  obtain ⟨va, hva⟩ : ∃ v, (atV E (i : Int)).1 = v := ⟨_, rfl⟩
  obtain ⟨vb, hvb⟩ : ∃ v, (atV E (j : Int)).1 = v := ⟨_, rfl⟩
  obtain ⟨vk, hvk⟩ : ∃ v, (atV E (k : Int)).1 = v := ⟨_, rfl⟩
  obtain ⟨qa, hqa⟩ : ∃ v, (atV E (i : Int)).2 = v := ⟨_, rfl⟩
  obtain ⟨qb, hqb⟩ : ∃ v, (atV E (j : Int)).2 = v := ⟨_, rfl⟩
  obtain ⟨qk, hqk⟩ : ∃ v, (atV E (k : Int)).2 = v := ⟨_, rfl⟩
  have HIa : Hid (I64 va) := by have h := HI.out i; rw [hva] at h; exact h
  have HIb : Hid (I64 vb) := by have h := HI.out j; rw [hvb] at h; exact h
  rw [hva] at la1
  rw [hvb] at lb1
  rw [hvk] at lk1
  rw [hqa] at oa1
  rw [hqb] at ob1
  rw [hqk] at ok1
  have HP3 : Hid (qa = false → qb = false → qk = false → decide (vk = 1) = atM va vb c) := by have h := HP2.out; rw [hva, hvb, hvk, hqa, hqb, hqk] at h; exact h
  clear hva hvb hvk hqa hqb hqk hgl hgo hgl' hgo' hla hoa hv
  cases qa with
  | true =>
    go_wp2_with (go_at_call 7; refine (HWk.out _ HB6.out).mono ?_; rintro e w9 ⟨rfl, hb9⟩)
    go_ret
    exact ⟨rfl, HU.out _ hb9⟩
  | false =>
  cases qb with
  | true =>
    go_wp2_with (go_at_call 7; refine (HWk.out _ HB6.out).mono ?_; rintro e w9 ⟨rfl, hb9⟩)
    go_ret
    exact ⟨rfl, HU.out _ hb9⟩
  | false =>
  cases qk with
  | true =>
    go_wp2_with (go_at_call 7; refine (HWk.out _ HB6.out).mono ?_; rintro e w9 ⟨rfl, hb9⟩)
    go_ret
    exact ⟨rfl, HU.out _ hb9⟩
  | false =>
  have hq := HP3.out rfl rfl rfl
  have HS : Hid (∀ V, Below w6.heap.size w6 V → V.cell? ⟨gl, ol + k, none⟩ = some (.int .i64 vk) ∧ V.cell? ⟨gl, ol + i, none⟩ = some (.int .i64 va) ∧ V.cell? ⟨gl, ol + j, none⟩ = some (.int .i64 vb)) := fun V hV => ⟨(hV.cell (p := ⟨gl, ol + k, none⟩) zl).trans lk1, (hV.cell (p := ⟨gl, ol + i, none⟩) zl).trans la1, (hV.cell (p := ⟨gl, ol + j, none⟩) zl).trans lb1⟩
  have HBx : Hid (∀ V, Below w6.heap.size w6 V → Below W0.heap.size W0 V) := fun V hV => HB6.out.trans (hV.mono HB6.out.size)
  cases hr : atM va vb c with
  | false =>
    rw [hr] at hq
    have e1 : (vk == 1) = false := eq_false (of_decide_eq_false hq)
    clear hq
    go_wp2_with fail
    refine wp_region_held_drew (S := fun V => V.cell? ⟨gl, ol + k, none⟩ = some (.int .i64 vk) ∧ V.cell? ⟨gl, ol + i, none⟩ = some (.int .i64 va) ∧ V.cell? ⟨gl, ol + j, none⟩ = some (.int .i64 vb)) (by kernel_rfl) (HS.out _ (Below.refl _ _).drew) (fun hHeld => ?_)
    refine wpAnyH_take (i := 0) (oi := { dst := some 115, op := Op.move (Operand.tmp 17), type := 27, pos := "law.go:105", after := #[], guard := none }) (v := .slice (some ⟨gl, ol, none⟩) u.length lc) rfl (by kernel_rfl) (by kernel_rfl) (by kernel_rfl) (fun _ _ _ h => h) (Or.inl ⟨by rfl, ?_⟩) (by assumption) ?_
    · (intro w hSw; (try dsimp only at hSw); go_simp)
    try simp only [Act.put, List.setIfInBounds_toArray, List.set_cons_zero, List.set_cons_succ]
    refine wpAnyH_take (i := 1) (oi := { dst := some 116, op := Op.move (Operand.tmp 14), type := 3, pos := "law.go:105", after := #[], guard := none }) (v := .int .i64 k) rfl (by kernel_rfl) (by kernel_rfl) (by kernel_rfl) (fun _ _ _ h => h) (Or.inl ⟨by rfl, ?_⟩) (by assumption) ?_
    · (intro w hSw; (try dsimp only at hSw); go_simp)
    try simp only [Act.put, List.setIfInBounds_toArray, List.set_cons_zero, List.set_cons_succ]
    refine wpAnyH_take (i := 2) (oi := { dst := some 117, op := Op.indexAddr 27 (Operand.tmp 115) (Operand.tmp 116), type := 0, pos := "law.go:105", after := #[{ on := 0, ground := Ground.data }, { on := 1, ground := Ground.data }], guard := none }) (v := .pointer (some ⟨gl, ol + k, none⟩)) rfl (by kernel_rfl) (by kernel_rfl) (by kernel_rfl) (fun _ _ _ h => h) (Or.inl ⟨by rfl, ?_⟩) (by assumption) ?_
    · (intro w hSw; (try dsimp only at hSw); go_simp)
    try simp only [Act.put, List.setIfInBounds_toArray, List.set_cons_zero, List.set_cons_succ]
    refine wpAnyH_take (i := 3) (oi := { dst := some 118, op := Op.load 3 (Operand.tmp 117), type := 3, pos := "law.go:105", after := #[{ on := 2, ground := Ground.data }], guard := none }) (v := .int .i64 vk) rfl (by kernel_rfl) (by kernel_rfl) (by kernel_rfl) (fun _ _ _ h => h) (Or.inl ⟨by rfl, ?_⟩) (by assumption) ?_
    · (intro w hSw; (try dsimp only at hSw); go_simp)
    try simp only [Act.put, List.setIfInBounds_toArray, List.set_cons_zero, List.set_cons_succ]
    refine wpAnyH_take (i := 4) (oi := { dst := some 119, op := Op.binOp BinOp.eql 3 (Operand.tmp 118) (Operand.const (Value.int IntKind.i64 1)) 3, type := 4, pos := "law.go:105", after := #[{ on := 3, ground := Ground.data }], guard := none }) (v := .bool false) rfl (by kernel_rfl) (by kernel_rfl) (by kernel_rfl) (fun _ _ _ h => h) (Or.inl ⟨by rfl, ?_⟩) (by assumption) ?_
    · (intro w hSw; (try dsimp only at hSw); go_simp)
    try simp only [Act.put, List.setIfInBounds_toArray, List.set_cons_zero, List.set_cons_succ]
    refine wpAnyH_take (i := 5) (oi := { dst := some 120, op := Op.move (Operand.tmp 17), type := 27, pos := "law.go:105", after := #[], guard := none }) (v := .slice (some ⟨gl, ol, none⟩) u.length lc) rfl (by kernel_rfl) (by kernel_rfl) (by kernel_rfl) (fun _ _ _ h => h) (Or.inl ⟨by rfl, ?_⟩) (by assumption) ?_
    · (intro w hSw; (try dsimp only at hSw); go_simp)
    try simp only [Act.put, List.setIfInBounds_toArray, List.set_cons_zero, List.set_cons_succ]
    refine wpAnyH_take (i := 6) (oi := { dst := some 121, op := Op.move (Operand.tmp 3), type := 3, pos := "law.go:105", after := #[], guard := none }) (v := .int .i64 i) rfl (by kernel_rfl) (by kernel_rfl) (by kernel_rfl) (fun _ _ _ h => h) (Or.inl ⟨by rfl, ?_⟩) (by assumption) ?_
    · (intro w hSw; (try dsimp only at hSw); go_simp)
    try simp only [Act.put, List.setIfInBounds_toArray, List.set_cons_zero, List.set_cons_succ]
    refine wpAnyH_take (i := 7) (oi := { dst := some 122, op := Op.indexAddr 27 (Operand.tmp 120) (Operand.tmp 121), type := 0, pos := "law.go:105", after := #[{ on := 5, ground := Ground.data }, { on := 6, ground := Ground.data }], guard := none }) (v := .pointer (some ⟨gl, ol + i, none⟩)) rfl (by kernel_rfl) (by kernel_rfl) (by kernel_rfl) (fun _ _ _ h => h) (Or.inl ⟨by rfl, ?_⟩) (by assumption) ?_
    · (intro w hSw; (try dsimp only at hSw); go_simp)
    try simp only [Act.put, List.setIfInBounds_toArray, List.set_cons_zero, List.set_cons_succ]
    refine wpAnyH_take (i := 8) (oi := { dst := some 123, op := Op.load 3 (Operand.tmp 122), type := 3, pos := "law.go:105", after := #[{ on := 7, ground := Ground.data }], guard := none }) (v := .int .i64 va) rfl (by kernel_rfl) (by kernel_rfl) (by kernel_rfl) (fun _ _ _ h => h) (Or.inl ⟨by rfl, ?_⟩) (by assumption) ?_
    · (intro w hSw; (try dsimp only at hSw); go_simp)
    try simp only [Act.put, List.setIfInBounds_toArray, List.set_cons_zero, List.set_cons_succ]
    refine wpAnyH_take (i := 9) (oi := { dst := some 124, op := Op.move (Operand.tmp 17), type := 27, pos := "law.go:105", after := #[], guard := none }) (v := .slice (some ⟨gl, ol, none⟩) u.length lc) rfl (by kernel_rfl) (by kernel_rfl) (by kernel_rfl) (fun _ _ _ h => h) (Or.inl ⟨by rfl, ?_⟩) (by assumption) ?_
    · (intro w hSw; (try dsimp only at hSw); go_simp)
    try simp only [Act.put, List.setIfInBounds_toArray, List.set_cons_zero, List.set_cons_succ]
    refine wpAnyH_take (i := 10) (oi := { dst := some 125, op := Op.move (Operand.tmp 4), type := 3, pos := "law.go:105", after := #[], guard := none }) (v := .int .i64 j) rfl (by kernel_rfl) (by kernel_rfl) (by kernel_rfl) (fun _ _ _ h => h) (Or.inl ⟨by rfl, ?_⟩) (by assumption) ?_
    · (intro w hSw; (try dsimp only at hSw); go_simp)
    try simp only [Act.put, List.setIfInBounds_toArray, List.set_cons_zero, List.set_cons_succ]
    refine wpAnyH_take (i := 11) (oi := { dst := some 126, op := Op.indexAddr 27 (Operand.tmp 124) (Operand.tmp 125), type := 0, pos := "law.go:105", after := #[{ on := 9, ground := Ground.data }, { on := 10, ground := Ground.data }], guard := none }) (v := .pointer (some ⟨gl, ol + j, none⟩)) rfl (by kernel_rfl) (by kernel_rfl) (by kernel_rfl) (fun _ _ _ h => h) (Or.inl ⟨by rfl, ?_⟩) (by assumption) ?_
    · (intro w hSw; (try dsimp only at hSw); go_simp)
    try simp only [Act.put, List.setIfInBounds_toArray, List.set_cons_zero, List.set_cons_succ]
    refine wpAnyH_take (i := 12) (oi := { dst := some 127, op := Op.load 3 (Operand.tmp 126), type := 3, pos := "law.go:105", after := #[{ on := 11, ground := Ground.data }], guard := none }) (v := .int .i64 vb) rfl (by kernel_rfl) (by kernel_rfl) (by kernel_rfl) (fun _ _ _ h => h) (Or.inl ⟨by rfl, ?_⟩) (by assumption) ?_
    · (intro w hSw; (try dsimp only at hSw); go_simp)
    try simp only [Act.put, List.setIfInBounds_toArray, List.set_cons_zero, List.set_cons_succ]
    refine wpAnyH_take (i := 13) (oi := { dst := some 128, op := Op.move (Operand.tmp 5), type := 3, pos := "law.go:105", after := #[], guard := none }) (v := .int .i64 c) rfl (by kernel_rfl) (by kernel_rfl) (by kernel_rfl) (fun _ _ _ h => h) (Or.inl ⟨by rfl, ?_⟩) (by assumption) ?_
    · (intro w hSw; (try dsimp only at hSw); go_simp)
    try simp only [Act.put, List.setIfInBounds_toArray, List.set_cons_zero, List.set_cons_succ]
    refine wpAnyH_ready (rs := [14]) (by kernel_rfl) (by simp) ?_
    refine AllReadyH.cons (o := { dst := some 129, op := Op.call { callee := Callee.value (Operand.func 10), args := #[Operand.tmp 123, Operand.tmp 127, Operand.tmp 128], argTypes := #[3, 3, 3] }, type := 4, pos := "law.go:105", after := #[{ on := 8, ground := Ground.data }, { on := 12, ground := Ground.data }, { on := 13, ground := Ground.data }], guard := none }) rfl (fun K hK => ?_) AllReadyH.nil
    go_simp
    go_at_call 10
    refine (RAtMost_any va vb c _ _ HIa.out HIb.out hc hr).mono ?_
    rintro e w7 ⟨rfl, rfl⟩
    clear hr
    go_wp2_with fail
    refine hK.out _ _ ?_ (fun hHeld => ?_)
    · exact HS.out _ (Below.refl _ _).drew
    clear hK K
    try simp only [Act.put, List.setIfInBounds_toArray, List.set_cons_zero, List.set_cons_succ]
    refine wpAnyH_take (i := 15) (oi := { dst := some 130, op := Op.binOp BinOp.eql 4 (Operand.tmp 119) (Operand.tmp 129) 4, type := 4, pos := "law.go:105", after := #[{ on := 4, ground := Ground.data }, { on := 14, ground := Ground.data }], guard := none }) (v := .bool true) rfl (by kernel_rfl) (by kernel_rfl) (by kernel_rfl) (fun _ _ _ h => h) (Or.inl ⟨by rfl, ?_⟩) (by assumption) ?_
    · (intro w hSw; (try dsimp only at hSw); go_simp)
    try simp only [Act.put, List.setIfInBounds_toArray, List.set_cons_zero, List.set_cons_succ]
    refine wpAnyH_take (i := 16) (oi := { dst := some 131, op := Op.move (Operand.tmp 130), type := 4, pos := "law.go:105", after := #[{ on := 15, ground := Ground.data }, { on := 14, ground := Ground.chain }], guard := none }) (v := .bool true) rfl (by kernel_rfl) (by kernel_rfl) (by kernel_rfl) (fun _ _ _ h => h) (Or.inl ⟨by rfl, ?_⟩) (by assumption) ?_
    · (intro w hSw; (try dsimp only at hSw); go_simp)
    try simp only [Act.put, List.setIfInBounds_toArray, List.set_cons_zero, List.set_cons_succ]
    refine wpAnyH_ready (rs := [17]) (by kernel_rfl) (by simp) ?_
    refine AllReadyH.cons (o := { dst := some 132, op := Op.call { callee := Callee.value (Operand.func 7), args := #[], argTypes := #[] }, type := 4, pos := "law.go:105", after := #[{ on := 16, ground := Ground.chain }, { on := 16, ground := Ground.guard }], guard := some (16, true) }) rfl (fun K hK => ?_) AllReadyH.nil
    go_simp
    go_at_call 7
    refine (HWk2.out _ (HBx.out _ (Below.refl _ _).drew)).mono ?_
    rintro e w8 ⟨rfl, hb8⟩
    have HB8 := Lib.hid ((Below.refl _ w6).drew.trans hb8)
    clear hb8
    go_wp2_with fail
    refine hK.out _ _ ?_ (fun hHeld => ?_)
    · exact HS.out _ HB8.out
    clear hK K
    try simp only [Act.put, List.setIfInBounds_toArray, List.set_cons_zero, List.set_cons_succ]
    refine wpAnyH_take (i := 18) (oi := { dst := some 133, op := Op.pick (Operand.tmp 131) (Operand.tmp 132) (Operand.const (Value.bool false)), type := 4, pos := "law.go:105", after := #[{ on := 16, ground := Ground.data }, { on := 17, ground := Ground.data }], guard := none }) (v := .bool true) rfl (by kernel_rfl) (by kernel_rfl) (by kernel_rfl) (fun _ _ _ h => h) (Or.inl ⟨by rfl, ?_⟩) (by assumption) ?_
    · (intro w hSw; (try dsimp only at hSw); go_simp)
    try simp only [Act.put, List.setIfInBounds_toArray, List.set_cons_zero, List.set_cons_succ]
    refine wpAnyH_take (i := 19) (oi := { dst := some 12, op := Op.assign (Operand.tmp 133), type := 4, pos := "law.go:105", after := #[{ on := 18, ground := Ground.data }, { on := 17, ground := Ground.chain }, { on := 0, ground := Ground.phase }, { on := 1, ground := Ground.phase }, { on := 2, ground := Ground.phase }, { on := 3, ground := Ground.phase }, { on := 4, ground := Ground.phase }, { on := 5, ground := Ground.phase }, { on := 6, ground := Ground.phase }, { on := 7, ground := Ground.phase }, { on := 8, ground := Ground.phase }, { on := 9, ground := Ground.phase }, { on := 10, ground := Ground.phase }, { on := 11, ground := Ground.phase }, { on := 12, ground := Ground.phase }, { on := 13, ground := Ground.phase }, { on := 14, ground := Ground.phase }, { on := 15, ground := Ground.phase }, { on := 16, ground := Ground.phase }, { on := 17, ground := Ground.phase }, { on := 18, ground := Ground.phase }], guard := none }) (v := .bool true) rfl (by kernel_rfl) (by kernel_rfl) (by kernel_rfl) (fun _ _ _ h => h) (Or.inl ⟨by rfl, ?_⟩) (by assumption) ?_
    · (intro w hSw; (try dsimp only at hSw); go_simp)
    try simp only [Act.put, List.setIfInBounds_toArray, List.set_cons_zero, List.set_cons_succ]
    refine wpAnyH_done (by kernel_rfl) ?_ _
    go_wp2_with fail
    go_ret
    exact ⟨rfl, HU.out _ (HBx.out _ HB8.out)⟩
  | true =>
    rw [hr] at hq
    have e1 : (vk == 1) = true := eq_true_ (of_decide_eq_true hq)
    clear hq
    go_wp2_with fail
    refine wp_region_held_drew (S := fun V => V.cell? ⟨gl, ol + k, none⟩ = some (.int .i64 vk) ∧ V.cell? ⟨gl, ol + i, none⟩ = some (.int .i64 va) ∧ V.cell? ⟨gl, ol + j, none⟩ = some (.int .i64 vb)) (by kernel_rfl) (HS.out _ (Below.refl _ _).drew) (fun hHeld => ?_)
    refine wpAnyH_take (i := 0) (oi := { dst := some 115, op := Op.move (Operand.tmp 17), type := 27, pos := "law.go:105", after := #[], guard := none }) (v := .slice (some ⟨gl, ol, none⟩) u.length lc) rfl (by kernel_rfl) (by kernel_rfl) (by kernel_rfl) (fun _ _ _ h => h) (Or.inl ⟨by rfl, ?_⟩) (by assumption) ?_
    · (intro w hSw; (try dsimp only at hSw); go_simp)
    try simp only [Act.put, List.setIfInBounds_toArray, List.set_cons_zero, List.set_cons_succ]
    refine wpAnyH_take (i := 1) (oi := { dst := some 116, op := Op.move (Operand.tmp 14), type := 3, pos := "law.go:105", after := #[], guard := none }) (v := .int .i64 k) rfl (by kernel_rfl) (by kernel_rfl) (by kernel_rfl) (fun _ _ _ h => h) (Or.inl ⟨by rfl, ?_⟩) (by assumption) ?_
    · (intro w hSw; (try dsimp only at hSw); go_simp)
    try simp only [Act.put, List.setIfInBounds_toArray, List.set_cons_zero, List.set_cons_succ]
    refine wpAnyH_take (i := 2) (oi := { dst := some 117, op := Op.indexAddr 27 (Operand.tmp 115) (Operand.tmp 116), type := 0, pos := "law.go:105", after := #[{ on := 0, ground := Ground.data }, { on := 1, ground := Ground.data }], guard := none }) (v := .pointer (some ⟨gl, ol + k, none⟩)) rfl (by kernel_rfl) (by kernel_rfl) (by kernel_rfl) (fun _ _ _ h => h) (Or.inl ⟨by rfl, ?_⟩) (by assumption) ?_
    · (intro w hSw; (try dsimp only at hSw); go_simp)
    try simp only [Act.put, List.setIfInBounds_toArray, List.set_cons_zero, List.set_cons_succ]
    refine wpAnyH_take (i := 3) (oi := { dst := some 118, op := Op.load 3 (Operand.tmp 117), type := 3, pos := "law.go:105", after := #[{ on := 2, ground := Ground.data }], guard := none }) (v := .int .i64 vk) rfl (by kernel_rfl) (by kernel_rfl) (by kernel_rfl) (fun _ _ _ h => h) (Or.inl ⟨by rfl, ?_⟩) (by assumption) ?_
    · (intro w hSw; (try dsimp only at hSw); go_simp)
    try simp only [Act.put, List.setIfInBounds_toArray, List.set_cons_zero, List.set_cons_succ]
    refine wpAnyH_take (i := 4) (oi := { dst := some 119, op := Op.binOp BinOp.eql 3 (Operand.tmp 118) (Operand.const (Value.int IntKind.i64 1)) 3, type := 4, pos := "law.go:105", after := #[{ on := 3, ground := Ground.data }], guard := none }) (v := .bool true) rfl (by kernel_rfl) (by kernel_rfl) (by kernel_rfl) (fun _ _ _ h => h) (Or.inl ⟨by rfl, ?_⟩) (by assumption) ?_
    · (intro w hSw; (try dsimp only at hSw); go_simp)
    try simp only [Act.put, List.setIfInBounds_toArray, List.set_cons_zero, List.set_cons_succ]
    refine wpAnyH_take (i := 5) (oi := { dst := some 120, op := Op.move (Operand.tmp 17), type := 27, pos := "law.go:105", after := #[], guard := none }) (v := .slice (some ⟨gl, ol, none⟩) u.length lc) rfl (by kernel_rfl) (by kernel_rfl) (by kernel_rfl) (fun _ _ _ h => h) (Or.inl ⟨by rfl, ?_⟩) (by assumption) ?_
    · (intro w hSw; (try dsimp only at hSw); go_simp)
    try simp only [Act.put, List.setIfInBounds_toArray, List.set_cons_zero, List.set_cons_succ]
    refine wpAnyH_take (i := 6) (oi := { dst := some 121, op := Op.move (Operand.tmp 3), type := 3, pos := "law.go:105", after := #[], guard := none }) (v := .int .i64 i) rfl (by kernel_rfl) (by kernel_rfl) (by kernel_rfl) (fun _ _ _ h => h) (Or.inl ⟨by rfl, ?_⟩) (by assumption) ?_
    · (intro w hSw; (try dsimp only at hSw); go_simp)
    try simp only [Act.put, List.setIfInBounds_toArray, List.set_cons_zero, List.set_cons_succ]
    refine wpAnyH_take (i := 7) (oi := { dst := some 122, op := Op.indexAddr 27 (Operand.tmp 120) (Operand.tmp 121), type := 0, pos := "law.go:105", after := #[{ on := 5, ground := Ground.data }, { on := 6, ground := Ground.data }], guard := none }) (v := .pointer (some ⟨gl, ol + i, none⟩)) rfl (by kernel_rfl) (by kernel_rfl) (by kernel_rfl) (fun _ _ _ h => h) (Or.inl ⟨by rfl, ?_⟩) (by assumption) ?_
    · (intro w hSw; (try dsimp only at hSw); go_simp)
    try simp only [Act.put, List.setIfInBounds_toArray, List.set_cons_zero, List.set_cons_succ]
    refine wpAnyH_take (i := 8) (oi := { dst := some 123, op := Op.load 3 (Operand.tmp 122), type := 3, pos := "law.go:105", after := #[{ on := 7, ground := Ground.data }], guard := none }) (v := .int .i64 va) rfl (by kernel_rfl) (by kernel_rfl) (by kernel_rfl) (fun _ _ _ h => h) (Or.inl ⟨by rfl, ?_⟩) (by assumption) ?_
    · (intro w hSw; (try dsimp only at hSw); go_simp)
    try simp only [Act.put, List.setIfInBounds_toArray, List.set_cons_zero, List.set_cons_succ]
    refine wpAnyH_take (i := 9) (oi := { dst := some 124, op := Op.move (Operand.tmp 17), type := 27, pos := "law.go:105", after := #[], guard := none }) (v := .slice (some ⟨gl, ol, none⟩) u.length lc) rfl (by kernel_rfl) (by kernel_rfl) (by kernel_rfl) (fun _ _ _ h => h) (Or.inl ⟨by rfl, ?_⟩) (by assumption) ?_
    · (intro w hSw; (try dsimp only at hSw); go_simp)
    try simp only [Act.put, List.setIfInBounds_toArray, List.set_cons_zero, List.set_cons_succ]
    refine wpAnyH_take (i := 10) (oi := { dst := some 125, op := Op.move (Operand.tmp 4), type := 3, pos := "law.go:105", after := #[], guard := none }) (v := .int .i64 j) rfl (by kernel_rfl) (by kernel_rfl) (by kernel_rfl) (fun _ _ _ h => h) (Or.inl ⟨by rfl, ?_⟩) (by assumption) ?_
    · (intro w hSw; (try dsimp only at hSw); go_simp)
    try simp only [Act.put, List.setIfInBounds_toArray, List.set_cons_zero, List.set_cons_succ]
    refine wpAnyH_take (i := 11) (oi := { dst := some 126, op := Op.indexAddr 27 (Operand.tmp 124) (Operand.tmp 125), type := 0, pos := "law.go:105", after := #[{ on := 9, ground := Ground.data }, { on := 10, ground := Ground.data }], guard := none }) (v := .pointer (some ⟨gl, ol + j, none⟩)) rfl (by kernel_rfl) (by kernel_rfl) (by kernel_rfl) (fun _ _ _ h => h) (Or.inl ⟨by rfl, ?_⟩) (by assumption) ?_
    · (intro w hSw; (try dsimp only at hSw); go_simp)
    try simp only [Act.put, List.setIfInBounds_toArray, List.set_cons_zero, List.set_cons_succ]
    refine wpAnyH_take (i := 12) (oi := { dst := some 127, op := Op.load 3 (Operand.tmp 126), type := 3, pos := "law.go:105", after := #[{ on := 11, ground := Ground.data }], guard := none }) (v := .int .i64 vb) rfl (by kernel_rfl) (by kernel_rfl) (by kernel_rfl) (fun _ _ _ h => h) (Or.inl ⟨by rfl, ?_⟩) (by assumption) ?_
    · (intro w hSw; (try dsimp only at hSw); go_simp)
    try simp only [Act.put, List.setIfInBounds_toArray, List.set_cons_zero, List.set_cons_succ]
    refine wpAnyH_take (i := 13) (oi := { dst := some 128, op := Op.move (Operand.tmp 5), type := 3, pos := "law.go:105", after := #[], guard := none }) (v := .int .i64 c) rfl (by kernel_rfl) (by kernel_rfl) (by kernel_rfl) (fun _ _ _ h => h) (Or.inl ⟨by rfl, ?_⟩) (by assumption) ?_
    · (intro w hSw; (try dsimp only at hSw); go_simp)
    try simp only [Act.put, List.setIfInBounds_toArray, List.set_cons_zero, List.set_cons_succ]
    refine wpAnyH_ready (rs := [14]) (by kernel_rfl) (by simp) ?_
    refine AllReadyH.cons (o := { dst := some 129, op := Op.call { callee := Callee.value (Operand.func 10), args := #[Operand.tmp 123, Operand.tmp 127, Operand.tmp 128], argTypes := #[3, 3, 3] }, type := 4, pos := "law.go:105", after := #[{ on := 8, ground := Ground.data }, { on := 12, ground := Ground.data }, { on := 13, ground := Ground.data }], guard := none }) rfl (fun K hK => ?_) AllReadyH.nil
    go_simp
    go_at_call 10
    refine (RAtMost_any va vb c _ _ HIa.out HIb.out hc hr).mono ?_
    rintro e w7 ⟨rfl, rfl⟩
    clear hr
    go_wp2_with fail
    refine hK.out _ _ ?_ (fun hHeld => ?_)
    · exact HS.out _ (Below.refl _ _).drew
    clear hK K
    try simp only [Act.put, List.setIfInBounds_toArray, List.set_cons_zero, List.set_cons_succ]
    refine wpAnyH_take (i := 15) (oi := { dst := some 130, op := Op.binOp BinOp.eql 4 (Operand.tmp 119) (Operand.tmp 129) 4, type := 4, pos := "law.go:105", after := #[{ on := 4, ground := Ground.data }, { on := 14, ground := Ground.data }], guard := none }) (v := .bool true) rfl (by kernel_rfl) (by kernel_rfl) (by kernel_rfl) (fun _ _ _ h => h) (Or.inl ⟨by rfl, ?_⟩) (by assumption) ?_
    · (intro w hSw; (try dsimp only at hSw); go_simp)
    try simp only [Act.put, List.setIfInBounds_toArray, List.set_cons_zero, List.set_cons_succ]
    refine wpAnyH_take (i := 16) (oi := { dst := some 131, op := Op.move (Operand.tmp 130), type := 4, pos := "law.go:105", after := #[{ on := 15, ground := Ground.data }, { on := 14, ground := Ground.chain }], guard := none }) (v := .bool true) rfl (by kernel_rfl) (by kernel_rfl) (by kernel_rfl) (fun _ _ _ h => h) (Or.inl ⟨by rfl, ?_⟩) (by assumption) ?_
    · (intro w hSw; (try dsimp only at hSw); go_simp)
    try simp only [Act.put, List.setIfInBounds_toArray, List.set_cons_zero, List.set_cons_succ]
    refine wpAnyH_ready (rs := [17]) (by kernel_rfl) (by simp) ?_
    refine AllReadyH.cons (o := { dst := some 132, op := Op.call { callee := Callee.value (Operand.func 7), args := #[], argTypes := #[] }, type := 4, pos := "law.go:105", after := #[{ on := 16, ground := Ground.chain }, { on := 16, ground := Ground.guard }], guard := some (16, true) }) rfl (fun K hK => ?_) AllReadyH.nil
    go_simp
    go_at_call 7
    refine (HWk2.out _ (HBx.out _ (Below.refl _ _).drew)).mono ?_
    rintro e w8 ⟨rfl, hb8⟩
    have HB8 := Lib.hid ((Below.refl _ w6).drew.trans hb8)
    clear hb8
    go_wp2_with fail
    refine hK.out _ _ ?_ (fun hHeld => ?_)
    · exact HS.out _ HB8.out
    clear hK K
    try simp only [Act.put, List.setIfInBounds_toArray, List.set_cons_zero, List.set_cons_succ]
    refine wpAnyH_take (i := 18) (oi := { dst := some 133, op := Op.pick (Operand.tmp 131) (Operand.tmp 132) (Operand.const (Value.bool false)), type := 4, pos := "law.go:105", after := #[{ on := 16, ground := Ground.data }, { on := 17, ground := Ground.data }], guard := none }) (v := .bool true) rfl (by kernel_rfl) (by kernel_rfl) (by kernel_rfl) (fun _ _ _ h => h) (Or.inl ⟨by rfl, ?_⟩) (by assumption) ?_
    · (intro w hSw; (try dsimp only at hSw); go_simp)
    try simp only [Act.put, List.setIfInBounds_toArray, List.set_cons_zero, List.set_cons_succ]
    refine wpAnyH_take (i := 19) (oi := { dst := some 12, op := Op.assign (Operand.tmp 133), type := 4, pos := "law.go:105", after := #[{ on := 18, ground := Ground.data }, { on := 17, ground := Ground.chain }, { on := 0, ground := Ground.phase }, { on := 1, ground := Ground.phase }, { on := 2, ground := Ground.phase }, { on := 3, ground := Ground.phase }, { on := 4, ground := Ground.phase }, { on := 5, ground := Ground.phase }, { on := 6, ground := Ground.phase }, { on := 7, ground := Ground.phase }, { on := 8, ground := Ground.phase }, { on := 9, ground := Ground.phase }, { on := 10, ground := Ground.phase }, { on := 11, ground := Ground.phase }, { on := 12, ground := Ground.phase }, { on := 13, ground := Ground.phase }, { on := 14, ground := Ground.phase }, { on := 15, ground := Ground.phase }, { on := 16, ground := Ground.phase }, { on := 17, ground := Ground.phase }, { on := 18, ground := Ground.phase }], guard := none }) (v := .bool true) rfl (by kernel_rfl) (by kernel_rfl) (by kernel_rfl) (fun _ _ _ h => h) (Or.inl ⟨by rfl, ?_⟩) (by assumption) ?_
    · (intro w hSw; (try dsimp only at hSw); go_simp)
    try simp only [Act.put, List.setIfInBounds_toArray, List.set_cons_zero, List.set_cons_succ]
    refine wpAnyH_done (by kernel_rfl) ?_ _
    go_wp2_with fail
    go_ret
    exact ⟨rfl, HU.out _ (HBx.out _ HB8.out)⟩
end Go.Proofs.YtinogambkfihpaaDoor
