/- The law TermOnce, walked. -/
import Derived.Test.YtdjiebiobdhihaaDoorTmX
import Derived.Deep.RegionHeld3
import Derived.BigQuiet
namespace Go.Proofs.YtdjiebiobdhihaaDoor
open Go.RowKit
set_option linter.unusedVariables false
set_option maxRecDepth 100000 in
set_option maxHeartbeats 8000000 in
theorem TermOnce_c (w : World) (l : List NodeA) (a : Option Addr) (c : Nat) (hA : TabR w l a c) (n : NodeA) (hn : NodeOk n) (most : Int) (hmo : I64 most) (hG : GT w) :
    Calls Tryd.prog 3 #[.agg #[.slice a l.length c], .agg #[.int .i8 n.op, .int .i8 n.len, .int .i64 n.a0, .int .i64 n.a1, .int .i64 n.a2, .int .i64 n.sort, .int .i64 n.fn, .int .i64 n.num], .int .i64 most] w fun e w' => e = .returned (.bool true) ∧ Below w.heap.size w w' := by
  have hlm : l.length ≤ 9223372036854775807 := by have h1 := hA.le; have h2 := hA.cap; simp only [maxLen] at h2; omega
  have hle := hA.le
  obtain ⟨W0, hW0⟩ : ∃ W0, W0 = (w.alloc (.cells #[.slice a l.length c] 24)).alloc (.cells #[.int .i8 n.op, .int .i8 n.len, .int .i64 n.a0, .int .i64 n.a1, .int .i64 n.a2, .int .i64 n.sort, .int .i64 n.fn, .int .i64 n.num] 28) := ⟨_, rfl⟩
  have hB0 : Below w.heap.size w W0 := by rw [hW0]; exact ((Below.refl _ w).alloc (Nat.le_refl _) _).alloc (by simp) _
  have hsz : W0.heap.size = w.heap.size + 2 := by rw [hW0]; simp
  have hX0 : W0.heap[w.heap.size]? = some (.cells #[.slice a l.length c] 24 (0, 0)) := by rw [hW0]; exact (Below.heap_alloc _ _ _ (by simp)).trans (heap_alloc_new w _)
  have hN0 : W0.heap[w.heap.size + 1]? = some (.cells #[.int .i8 n.op, .int .i8 n.len, .int .i64 n.a0, .int .i64 n.a1, .int .i64 n.a2, .int .i64 n.sort, .int .i64 n.fn, .int .i64 n.num] 28 (0, 0)) := by
    have := heap_alloc_new (w.alloc (.cells #[.slice a l.length c] 24)) (.cells #[.int .i8 n.op, .int .i8 n.len, .int .i64 n.a0, .int .i64 n.a1, .int .i64 n.a2, .int .i64 n.sort, .int .i64 n.fn, .int .i64 n.num] 28)
    rw [World.size_alloc] at this
    rw [hW0]; exact this
  have HWk : Hid (∀ V, Below w.heap.size w V → Calls Tryd.prog 9 #[] V fun e w' => e = .returned (.bool true) ∧ Below V.heap.size V w') := fun V hV => wakes_any V (hG.below hV)
  have HA := Lib.hid hA
  have HB0 := Lib.hid hB0
  have HNo := Lib.hid hn
  have HXX : Hid (∀ V, Below W0.heap.size W0 V → V.cell? ⟨w.heap.size, 0, none⟩ = some (.slice a l.length c) ∧ w.heap.size < V.heap.size) := fun V hV => by
    have e0 := (hV.block _ (by omega)).trans hX0
    exact ⟨(cell_of_row _ _ 0 _ _ _ e0).trans rfl, (Array.getElem?_eq_some_iff.1 e0).1⟩
  have HNN : Hid (∀ V, Below W0.heap.size W0 V → V.cell? ⟨w.heap.size + 1, 0, none⟩ = some (.int .i8 n.op) ∧ V.cell? ⟨w.heap.size + 1, 1, none⟩ = some (.int .i8 n.len) ∧ V.cell? ⟨w.heap.size + 1, 2, none⟩ = some (.int .i64 n.a0) ∧ V.cell? ⟨w.heap.size + 1, 3, none⟩ = some (.int .i64 n.a1) ∧ V.cell? ⟨w.heap.size + 1, 4, none⟩ = some (.int .i64 n.a2) ∧ V.cell? ⟨w.heap.size + 1, 5, none⟩ = some (.int .i64 n.sort) ∧ V.cell? ⟨w.heap.size + 1, 6, none⟩ = some (.int .i64 n.fn) ∧ V.cell? ⟨w.heap.size + 1, 7, none⟩ = some (.int .i64 n.num) ∧ w.heap.size + 1 < V.heap.size) := fun V hV => by
    have e1 := (hV.block _ (by omega)).trans hN0
    exact ⟨(cell_of_row _ _ 0 _ _ _ e1).trans rfl, (cell_of_row _ _ 1 _ _ _ e1).trans rfl, (cell_of_row _ _ 2 _ _ _ e1).trans rfl, (cell_of_row _ _ 3 _ _ _ e1).trans rfl, (cell_of_row _ _ 4 _ _ _ e1).trans rfl, (cell_of_row _ _ 5 _ _ _ e1).trans rfl, (cell_of_row _ _ 6 _ _ _ e1).trans rfl, (cell_of_row _ _ 7 _ _ _ e1).trans rfl, (Array.getElem?_eq_some_iff.1 e1).1⟩
  obtain ⟨x0, xz⟩ := HXX.out _ (Below.refl _ _)
  cases hgr : decide (300 < l.length) with
  | true =>
    have HGr : Hid (Calls Tryd.prog 7 #[.agg #[.slice a l.length c]] W0 fun e w' => e = .returned (.bool true) ∧ Below W0.heap.size W0 w') := Great_any l a c true W0 hlm hgr
    clear hgr hA hB0 hX0 hsz hG hN0 hn
    go_enter Tryd.func3, Tryd.ntmps3
    go_wp2_with (first | (go_at_call 7; rw [← hW0]; clear hW0; refine HGr.out.mono ?_; rintro e w1 ⟨rfl, hb1⟩; have HB1 : Hid (Below w.heap.size w w1) := HB0.out.trans (hb1.mono HB0.out.size)) | (go_at_call 9; refine (HWk.out _ HB1.out).mono ?_; rintro e w2 ⟨rfl, hb2⟩))
    go_ret
    exact ⟨rfl, HB1.out.trans (hb2.mono HB1.out.size)⟩
  | false =>
  have HGr : Hid (Calls Tryd.prog 7 #[.agg #[.slice a l.length c]] W0 fun e w' => e = .returned (.bool false) ∧ Below W0.heap.size W0 w') := Great_any l a c false W0 hlm hgr
  have hl3 : l.length ≤ 300 := by have := of_decide_eq_false hgr; omega
  cases hm : mayT l with
  | false =>
    have HCk : Hid (∀ V, Below w.heap.size w V → Calls Tryd.prog 8 #[.agg #[.slice a l.length c]] V fun e w' => e = .returned (.int .i64 2) ∧ Below V.heap.size V w') := fun V hV => RCheck_any l a c 2 V (hA.below hV) (by omega) (by rw [hm]; rfl)
    clear hgr hA hB0 hX0 hsz hG hm hN0 hn
    go_enter Tryd.func3, Tryd.ntmps3
    go_wp2_with (first | (go_at_call 7; rw [← hW0]; clear hW0; refine HGr.out.mono ?_; rintro e w1 ⟨rfl, hb1⟩; have HB1 : Hid (Below w.heap.size w w1) := HB0.out.trans (hb1.mono HB0.out.size); clear x0 xz; obtain ⟨x0, xz⟩ := HXX.out _ hb1) | (go_at_call 8; refine (HCk.out _ HB1.out).mono ?_; rintro e w2 ⟨rfl, hb2⟩; have HB2 : Hid (Below w.heap.size w w2) := HB1.out.trans (hb2.mono HB1.out.size)) | (go_at_call 9; refine (HWk.out _ HB2.out).mono ?_; rintro e w3 ⟨rfl, hb3⟩))
    go_ret
    exact ⟨rfl, HB2.out.trans (hb3.mono HB2.out.size)⟩
  | true =>
  have HCk : Hid (∀ V, Below w.heap.size w V → Calls Tryd.prog 8 #[.agg #[.slice a l.length c]] V fun e w' => e = .returned (.int .i64 0) ∧ Below V.heap.size V w') := fun V hV => RCheck_any l a c 0 V (hA.below hV) (by omega) (by rw [hm]; rfl)
  have HPut : Hid (∀ V, Below w.heap.size w V → Calls Tryd.prog 10 #[.agg #[.slice a l.length c], .agg #[.int .i8 n.op, .int .i8 n.len, .int .i64 n.a0, .int .i64 n.a1, .int .i64 n.a2, .int .i64 n.sort, .int .i64 n.fn, .int .i64 n.num], .int .i64 most] V fun e w' => Below V.heap.size V w' ∧
      ((∃ er : Int, (er = 2 ∨ er = 40) ∧ e = .returned (.tuple #[.agg #[.slice none 0 0], .int .i64 0, .int .i64 er])) ∨
       (∃ (L : List NodeA) (a' : Option Addr) (c' k : Nat), e = .returned (.tuple #[.agg #[.slice a' L.length c'], .int .i64 k, .int .i64 0]) ∧ TabR w' L a' c' ∧ OnceP l n L k))) := fun V hV => put_two l a c n most V (hG.below hV) (hA.below hV) hn hmo (by omega) hm
  have HGl := Lib.hid hG
  have HM2 := Lib.hid (mayT_len hm)
  clear hgr hA hB0 hX0 hsz hG hm hN0 hn
  obtain ⟨n0, n1, n2, n3, n4, n5, n6, n7, nz⟩ := HNN.out _ (Below.refl _ _)
  go_enter Tryd.func3, Tryd.ntmps3
  go_wp2_with (first | (go_at_call 7; rw [← hW0]; clear hW0; refine HGr.out.mono ?_; rintro e w1 ⟨rfl, hb1⟩; have HB1 : Hid (Below w.heap.size w w1) := HB0.out.trans (hb1.mono HB0.out.size); clear x0 xz; obtain ⟨x0, xz⟩ := HXX.out _ hb1) | (go_at_call 8; refine (HCk.out _ HB1.out).mono ?_; rintro e w2 ⟨rfl, hb2⟩; have HB2 : Hid (Below w.heap.size w w2) := HB1.out.trans (hb2.mono HB1.out.size); have HC2 : Hid (Below W0.heap.size W0 w2) := hb1.trans (hb2.mono hb1.size); clear x0 xz n0 n1 n2 n3 n4 n5 n6 n7 nz; obtain ⟨x0, xz⟩ := HXX.out _ HC2.out; obtain ⟨n0, n1, n2, n3, n4, n5, n6, n7, nz⟩ := HNN.out _ HC2.out))
  refine (HPut.out _ HB2.out).mono ?_
  rintro e w3 ⟨hb3, ⟨er, her, rfl⟩ | ⟨L, a', c', k, rfl, hTL, hOP⟩⟩
  · have HB3 : Hid (Below w.heap.size w w3) := HB2.out.trans (hb3.mono HB2.out.size)
    clear hb1 hb2 hb3 x0 xz n0 n1 n2 n3 n4 n5 n6 n7 nz
    rcases her with rfl | rfl
    all_goals
      go_wp2_with (go_at_call 9; refine (HWk.out _ (HB3.out.alloc HB3.out.size _)).mono ?_; rintro e w4 ⟨rfl, hb4⟩)
      go_ret
      exact ⟨rfl, (HB3.out.alloc HB3.out.size _).trans (hb4.mono (by have := HB3.out.size; simp; omega))⟩
  · have HB3 : Hid (Below w.heap.size w w3) := HB2.out.trans (hb3.mono HB2.out.size)
    have HC3 : Hid (Below W0.heap.size W0 w3) := HC2.out.trans (hb3.mono HC2.out.size)
    have HO := Lib.hid hOP
    have HTL := Lib.hid hTL
    have hLl : L.length ≤ 301 := by have := hOP.ge; omega
    have hkl : k < L.length := hOP.lt
    clear hb1 hb2 hb3 x0 xz n0 n1 n2 n3 n4 n5 n6 n7 nz hTL hOP
    obtain ⟨W4, hW4⟩ : ∃ W4, W4 = w3.alloc (.cells #[.slice a' L.length c'] 24) := ⟨_, rfl⟩
    have hb34 : Below w3.heap.size w3 W4 := by rw [hW4]; exact (Below.refl _ _).alloc (Nat.le_refl _) _
    have hu4 : W4.heap[w3.heap.size]? = some (.cells #[.slice a' L.length c'] 24 (0, 0)) := by rw [hW4]; exact heap_alloc_new w3 _
    have HB4 : Hid (Below w.heap.size w W4) := HB3.out.trans (hb34.mono HB3.out.size)
    have HC4 : Hid (Below W0.heap.size W0 W4) := HC3.out.trans (hb34.mono HC3.out.size)
    have HU4 := Lib.hid hu4
    have HT4 : Hid (TabR W4 L a' c') := HTL.out.below hb34
    have HUU : Hid (∀ V, Below W4.heap.size W4 V → V.cell? ⟨w3.heap.size, 0, none⟩ = some (.slice a' L.length c') ∧ w3.heap.size < V.heap.size) := fun V hV => by
      have hz := (Array.getElem?_eq_some_iff.1 HU4.out).1
      have e0 := (hV.block _ hz).trans HU4.out
      exact ⟨(cell_of_row _ _ 0 _ _ _ e0).trans rfl, (Array.getElem?_eq_some_iff.1 e0).1⟩
    clear hb34 hu4
    obtain ⟨u0, uz⟩ := HUU.out _ (Below.refl _ _)
    obtain ⟨x0, xz⟩ := HXX.out _ HC4.out
    obtain ⟨n0, n1, n2, n3, n4, n5, n6, n7, nz⟩ := HNN.out _ HC4.out
    obtain ⟨g, o, he, gz, q0, q1, q2, q3, q4, q5, q6, q7⟩ := HT4.out.node HO.out.at_
    subst he
    have e0 := eq_node n n HNo.out HNo.out
    have f0 := eqi_node n n HNo.out HNo.out
    rw [decide_eq_true rfl] at e0 f0
    have HCk2 : Hid (∀ V, Below W4.heap.size W4 V → Calls Tryd.prog 11 #[.agg #[.slice (some ⟨g, o, none⟩) L.length c']] V fun e w' => e = .returned (.int .i64 0) ∧ Below V.heap.size V w') := fun V hV => Check_any L (some ⟨g, o, none⟩) c' 0 V (HGl.out.below (HB4.out.trans (hV.mono HB4.out.size))) (HT4.out.below hV) (by omega) (by rw [HO.out.may]; rfl)
    have H0 : Hid (W4.cell? ⟨w3.heap.size, 0, none⟩ = some (.slice (some ⟨g, o, none⟩) L.length c') ∧ W4.cell? ⟨w.heap.size, 0, none⟩ = some (.slice a l.length c) ∧ W4.cell? ⟨g, o + k * 8, none⟩ = some (.int .i8 n.op) ∧ W4.cell? ⟨g, o + k * 8 + 1, none⟩ = some (.int .i8 n.len) ∧ W4.cell? ⟨g, o + k * 8 + 2, none⟩ = some (.int .i64 n.a0) ∧ W4.cell? ⟨g, o + k * 8 + 3, none⟩ = some (.int .i64 n.a1) ∧ W4.cell? ⟨g, o + k * 8 + 4, none⟩ = some (.int .i64 n.a2) ∧ W4.cell? ⟨g, o + k * 8 + 5, none⟩ = some (.int .i64 n.sort) ∧ W4.cell? ⟨g, o + k * 8 + 6, none⟩ = some (.int .i64 n.fn) ∧ W4.cell? ⟨g, o + k * 8 + 7, none⟩ = some (.int .i64 n.num) ∧ W4.cell? ⟨w.heap.size + 1, 0, none⟩ = some (.int .i8 n.op) ∧ W4.cell? ⟨w.heap.size + 1, 1, none⟩ = some (.int .i8 n.len) ∧ W4.cell? ⟨w.heap.size + 1, 2, none⟩ = some (.int .i64 n.a0) ∧ W4.cell? ⟨w.heap.size + 1, 3, none⟩ = some (.int .i64 n.a1) ∧ W4.cell? ⟨w.heap.size + 1, 4, none⟩ = some (.int .i64 n.a2) ∧ W4.cell? ⟨w.heap.size + 1, 5, none⟩ = some (.int .i64 n.sort) ∧ W4.cell? ⟨w.heap.size + 1, 6, none⟩ = some (.int .i64 n.fn) ∧ W4.cell? ⟨w.heap.size + 1, 7, none⟩ = some (.int .i64 n.num)) := ⟨u0, x0, q0, q1, q2, q3, q4, q5, q6, q7, n0, n1, n2, n3, n4, n5, n6, n7⟩
    have hll : l.length ≤ L.length := HO.out.le
    have hlg : L.length ≤ l.length + 1 := HO.out.ge
    have d1 : decide ((k : Int) < 0) = false := decide_eq_false (by omega)
    have d2 : decide ((L.length : Int) ≤ (k : Int)) = false := decide_eq_false (by omega)
    have d2' : decide (L.length ≤ k) = false := decide_eq_false (by omega)
    have d3 : decide ((L.length : Int) < (l.length : Int)) = false := decide_eq_false (by omega)
    have d3' : decide (L.length < l.length) = false := decide_eq_false (by omega)
    have d4 : decide ((l.length : Int) + 1 < (L.length : Int)) = false := decide_eq_false (by omega)
    have hw1 : IntKind.i64.wrap ((l.length : Int) + 1) = (l.length : Int) + 1 := by rw [IntKind.wrap_i64]; omega
    have hw0 : wrap64 ((l.length : Int) + 1) = (l.length : Int) + 1 := by unfold wrap64; clear hw1; omega
    have hk0 : (0 : Int) ≤ (k : Int) := by clear hw0 hw1; omega
    have hki : (k : Int) < (L.length : Int) := by clear hw0 hw1; omega
    have hLc : L.length ≤ c' := HT4.out.le
    go_wp2
    rw [← hW4]
    clear hW4
    go_region_held3 (fun W => W.cell? ⟨w3.heap.size, 0, none⟩ = some (.slice (some ⟨g, o, none⟩) L.length c') ∧ W.cell? ⟨w.heap.size, 0, none⟩ = some (.slice a l.length c) ∧ W.cell? ⟨g, o + k * 8, none⟩ = some (.int .i8 n.op) ∧ W.cell? ⟨g, o + k * 8 + 1, none⟩ = some (.int .i8 n.len) ∧ W.cell? ⟨g, o + k * 8 + 2, none⟩ = some (.int .i64 n.a0) ∧ W.cell? ⟨g, o + k * 8 + 3, none⟩ = some (.int .i64 n.a1) ∧ W.cell? ⟨g, o + k * 8 + 4, none⟩ = some (.int .i64 n.a2) ∧ W.cell? ⟨g, o + k * 8 + 5, none⟩ = some (.int .i64 n.sort) ∧ W.cell? ⟨g, o + k * 8 + 6, none⟩ = some (.int .i64 n.fn) ∧ W.cell? ⟨g, o + k * 8 + 7, none⟩ = some (.int .i64 n.num) ∧ W.cell? ⟨w.heap.size + 1, 0, none⟩ = some (.int .i8 n.op) ∧ W.cell? ⟨w.heap.size + 1, 1, none⟩ = some (.int .i8 n.len) ∧ W.cell? ⟨w.heap.size + 1, 2, none⟩ = some (.int .i64 n.a0) ∧ W.cell? ⟨w.heap.size + 1, 3, none⟩ = some (.int .i64 n.a1) ∧ W.cell? ⟨w.heap.size + 1, 4, none⟩ = some (.int .i64 n.a2) ∧ W.cell? ⟨w.heap.size + 1, 5, none⟩ = some (.int .i64 n.sort) ∧ W.cell? ⟨w.heap.size + 1, 6, none⟩ = some (.int .i64 n.fn) ∧ W.cell? ⟨w.heap.size + 1, 7, none⟩ = some (.int .i64 n.num))
      (first | exact H0.out | exact ⟨(hc1 _ _ uz).trans H0.out.1, (hc1 _ _ xz).trans H0.out.2.1, (hc1 _ _ gz).trans H0.out.2.2.1, (hc1 _ _ gz).trans H0.out.2.2.2.1, (hc1 _ _ gz).trans H0.out.2.2.2.2.1, (hc1 _ _ gz).trans H0.out.2.2.2.2.2.1, (hc1 _ _ gz).trans H0.out.2.2.2.2.2.2.1, (hc1 _ _ gz).trans H0.out.2.2.2.2.2.2.2.1, (hc1 _ _ gz).trans H0.out.2.2.2.2.2.2.2.2.1, (hc1 _ _ gz).trans H0.out.2.2.2.2.2.2.2.2.2.1, (hc1 _ _ nz).trans H0.out.2.2.2.2.2.2.2.2.2.2.1, (hc1 _ _ nz).trans H0.out.2.2.2.2.2.2.2.2.2.2.2.1, (hc1 _ _ nz).trans H0.out.2.2.2.2.2.2.2.2.2.2.2.2.1, (hc1 _ _ nz).trans H0.out.2.2.2.2.2.2.2.2.2.2.2.2.2.1, (hc1 _ _ nz).trans H0.out.2.2.2.2.2.2.2.2.2.2.2.2.2.2.1, (hc1 _ _ nz).trans H0.out.2.2.2.2.2.2.2.2.2.2.2.2.2.2.2.1, (hc1 _ _ nz).trans H0.out.2.2.2.2.2.2.2.2.2.2.2.2.2.2.2.2.1, (hc1 _ _ nz).trans H0.out.2.2.2.2.2.2.2.2.2.2.2.2.2.2.2.2.2⟩ | go_keep)
      (first | (go_at_call 11; refine (HCk2.out _ (by first | exact (Below.refl _ _).drew | exact Below.refl _ _)).mono ?_; rintro e w5 ⟨rfl, hb5⟩; obtain ⟨hc1, hf1⟩ := bcell hb5))
    have HB5 : Hid (Below w.heap.size w w5) := HB4.out.drew.trans (hb5.mono HB4.out.size)
    have HC5 : Hid (Below W0.heap.size W0 w5) := HC4.out.drew.trans (hb5.mono HC4.out.size)
    have HU5 : Hid (Below W4.heap.size W4 w5) := (Below.refl _ _).drew.trans (hb5.mono (Nat.le_refl _))
    clear hc1 hf1 hb5 H0 u0 uz x0 xz n0 n1 n2 n3 n4 n5 n6 n7 nz q0 q1 q2 q3 q4 q5 q6 q7 gz e0 f0 HCk2
    obtain ⟨u0, uz⟩ := HUU.out _ HU5.out
    obtain ⟨x0, xz⟩ := HXX.out _ HC5.out
    have HTake : Hid (∀ j, j < l.length → L[j]? = l[j]?) := fun j hj => by
      have h1 := congrArg (fun z : List NodeA => z[j]?) HO.out.take
      simp only [List.getElem?_take, if_pos hj] at h1
      exact h1
    go_wp2_with fail
    clear u0 uz x0 xz
    go_loopw [86] (fun i wr => ∃ j : Nat, j ≤ l.length ∧ i = .int .i64 j ∧ Hid (Below w.heap.size w wr) ∧ Hid (Below W0.heap.size W0 wr) ∧ Hid (Below W4.heap.size W4 wr)) (fun i _ => l.length - (intOf i).toNat)
    case atStart => exact ⟨0, Nat.zero_le _, rfl, HB5, HC5, HU5⟩
    case round =>
      obtain ⟨j, hj, rfl, HW, HV, HU⟩ := hrel
      obtain ⟨u0, uz⟩ := HUU.out _ HU.out
      obtain ⟨x0, xz⟩ := HXX.out _ HV.out
      by_cases hlt : j < l.length
      · obtain ⟨y, hy⟩ : ∃ y, l[j]? = some y := ⟨_, List.getElem?_eq_getElem hlt⟩
        obtain ⟨g1, o1, he, hg1, q0, q1, q2, q3, q4, q5, q6, q7⟩ := (HA.out.below HW.out).node hy
        subst he
        obtain ⟨g2, o2, he, hg2, r0, r1, r2, r3, r4, r5, r6, r7⟩ := (HT4.out.below HU.out).node ((HTake.out j hlt).trans hy)
        cases he
        have hyo := HA.out.ok y (List.mem_of_getElem? hy)
        have e0 := eq_node y y hyo hyo
        have f0 := eqi_node y y hyo hyo
        rw [decide_eq_true rfl] at e0 f0
        have hjL : j < L.length := by omega
        have hjL2 : (j : Int) < (L.length : Int) := by omega
        have hjl2 : (j : Int) < (l.length : Int) := by omega
        clear hy hyo hw0 hw1
        go_wp2
        go_quiet (fail)
        go_wp2
        go_roundw
        case rel => exact ⟨j + 1, by omega, by go_num, below_drewN HW.out, below_drewN HV.out, below_drewN HU.out⟩
        case measure => simp [intOf]; omega
      · obtain rfl : j = l.length := by omega
        have HP2 : Hid (Calls Tryd.prog 10 #[.agg #[.slice (some ⟨g, o, none⟩) L.length c'], .agg #[.int .i8 n.op, .int .i8 n.len, .int .i64 n.a0, .int .i64 n.a1, .int .i64 n.a2, .int .i64 n.sort, .int .i64 n.fn, .int .i64 n.num], .int .i64 0] wr fun e w' => ∃ a' c'', e = .returned (.tuple #[.agg #[.slice a' L.length c''], .int .i64 k, .int .i64 0]) ∧ TabR w' L a' c'' ∧ Below wr.heap.size wr w') := by
          have := put_there L (some ⟨g, o, none⟩) c' n 0 wr (HGl.out.below HW.out) (HT4.out.below HU.out) HNo.out ⟨by decide, by decide⟩ (by omega) HO.out.may HO.out.st (List.mem_of_getElem? HO.out.at_)
          rw [HO.out.fnd] at this
          exact this
        have HCt : Hid (∀ V, Below wr.heap.size wr V → Calls Tryd.prog 12 #[.agg #[.slice (some ⟨g, o, none⟩) L.length c'], .int .i64 l.length] V (CutPost V L l.length)) := fun V hV => Cut_any L (some ⟨g, o, none⟩) c' l.length V (HGl.out.below (HW.out.trans (hV.mono HW.out.size))) ((HT4.out.below HU.out).below hV) (by omega) HO.out.may HM2.out hll
        obtain ⟨n0, n1, n2, n3, n4, n5, n6, n7, nz⟩ := HNN.out _ HV.out
        clear hw0 hw1
        go_wp2_with (go_at_call 10; fail)
        refine HP2.out.mono ?_
        rintro e w6 ⟨a6, c6, rfl, ht6, hb6⟩
        have HT6 := Lib.hid ht6
        have HB6 := Lib.hid hb6
        obtain ⟨W7, hW7⟩ : ∃ W7, W7 = w6.alloc (.cells #[.slice a6 L.length c6] 24) := ⟨_, rfl⟩
        have hb67 : Below w6.heap.size w6 W7 := by rw [hW7]; exact (Below.refl _ _).alloc (Nat.le_refl _) _
        have HB7 : Hid (Below wr.heap.size wr W7) := hb6.trans (hb67.mono hb6.size)
        have HT7 : Hid (TabR W7 L a6 c6) := ht6.below hb67
        have hv7 : W7.heap[w6.heap.size]? = some (.cells #[.slice a6 L.length c6] 24 (0, 0)) := by rw [hW7]; exact heap_alloc_new w6 _
        have HVV : Hid (∀ V, Below W7.heap.size W7 V → V.cell? ⟨w6.heap.size, 0, none⟩ = some (.slice a6 L.length c6) ∧ w6.heap.size < V.heap.size) := fun V hV => by
          have e0 := (hV.block _ (Array.getElem?_eq_some_iff.1 hv7).1).trans hv7
          exact ⟨(cell_of_row _ _ 0 _ _ _ e0).trans rfl, (Array.getElem?_eq_some_iff.1 e0).1⟩
        have HC6 : Hid (Below W0.heap.size W0 w6) := HV.out.trans (hb6.mono HV.out.size)
        have HU6 : Hid (Below W4.heap.size W4 w6) := HU.out.trans (hb6.mono HU.out.size)
        clear u0 uz x0 xz n0 n1 n2 n3 n4 n5 n6 n7 nz ht6 hb6 hb67 hv7
        obtain ⟨u0, uz⟩ := HUU.out w6 HU6.out
        obtain ⟨x0, xz⟩ := HXX.out w6 HC6.out
        go_wp2_with (go_at_call 12; fail)
        rw [← hW7]
        refine (HCt.out W7 HB7.out).mono ?_
        rintro e w8 ⟨Lc, a8, c8, hLc, rfl, ht8, hb8⟩
        have HLc : Hid (Lc = l) := hLc.trans HO.out.take
        have HT8 := Lib.hid ht8
        have HB8 : Hid (Below wr.heap.size wr w8) := HB7.out.trans (hb8.mono HB7.out.size)
        have HB78 := Lib.hid hb8
        clear u0 uz x0 xz hLc ht8 hb8 hW7
        obtain ⟨u0, uz⟩ := HUU.out w8 (HU.out.trans (HB8.out.mono HU.out.size))
        obtain ⟨x0, xz⟩ := HXX.out w8 (HV.out.trans (HB8.out.mono HV.out.size))
        obtain ⟨v0, vz⟩ := HVV.out w8 HB78.out
        have HS1 : Hid (∀ V, Below w8.heap.size w8 V → Calls Tryd.prog 13 #[.agg #[.slice (some ⟨g, o, none⟩) L.length c'], .agg #[.slice a6 L.length c6]] V fun e w' => e = .returned (.bool true) ∧ Below V.heap.size V w') := fun V hV => Same_any L L (some ⟨g, o, none⟩) a6 c' c6 true V (((HT4.out.below HU.out).below HB8.out).below hV) ((HT7.out.below HB78.out).below hV) (decide_eq_true rfl)
        have HS2 : Hid (∀ V, Below w8.heap.size w8 V → Calls Tryd.prog 13 #[.agg #[.slice a8 Lc.length c8], .agg #[.slice a l.length c]] V fun e w' => e = .returned (.bool true) ∧ Below V.heap.size V w') := fun V hV => Same_any Lc l a8 a c8 c true V (HT8.out.below hV) (((HA.out.below HW.out).below HB8.out).below hV) (decide_eq_true HLc.out)
        have HW8 : Hid (Below w.heap.size w w8) := HW.out.trans (HB8.out.mono HW.out.size)
        obtain ⟨W9, hW9⟩ : ∃ W9, W9 = w8.alloc (.cells #[.slice a8 Lc.length c8] 24) := ⟨_, rfl⟩
        have hb9 : Below w8.heap.size w8 W9 := by rw [hW9]; exact (Below.refl _ _).alloc (Nat.le_refl _) _
        have hy9 : W9.heap[w8.heap.size]? = some (.cells #[.slice a8 Lc.length c8] 24 (0, 0)) := by rw [hW9]; exact heap_alloc_new w8 _
        have HYY : Hid (∀ V, Below W9.heap.size W9 V → V.cell? ⟨w8.heap.size, 0, none⟩ = some (.slice a8 Lc.length c8)) := fun V hV => by
          have e0 := (hV.block _ (Array.getElem?_eq_some_iff.1 hy9).1).trans hy9
          exact (cell_of_row _ _ 0 _ _ _ e0).trans rfl
        have HB9 := Lib.hid hb9
        clear hb9 hy9
        go_wp2_with (go_at_call 13; fail)
        rw [← hW9]
        refine (HS1.out W9 HB9.out).mono ?_
        rintro e w10 ⟨rfl, hb10⟩
        have hb810 : Below w8.heap.size w8 w10 := HB9.out.trans (hb10.mono HB9.out.size)
        clear u0 uz x0 xz v0 vz hW9
        have y0 := HYY.out w10 hb10
        have yz : w8.heap.size < w10.heap.size := World.block_lt_of_cell? w10 ⟨w8.heap.size, 0, none⟩ y0
        obtain ⟨x0, xz⟩ := HXX.out w10 ((HV.out.trans (HB8.out.mono HV.out.size)).trans (hb810.mono (HV.out.trans (HB8.out.mono HV.out.size)).size))
        have HX10 := Lib.hid hb810
        clear hb10 hb810
        go_wp2_with (first | (go_at_call 13; refine (HS2.out _ HX10.out).mono ?_; rintro e w11 ⟨rfl, hb11⟩; have HW11 : Hid (Below w.heap.size w w11) := HW8.out.trans ((HX10.out.trans (hb11.mono HX10.out.size)).mono HW8.out.size)) | (go_at_call 9; refine (HWk.out _ HW11.out).mono ?_; rintro e w12 ⟨rfl, hb12⟩))
        go_ret
        exact ⟨rfl, HW11.out.trans (hb12.mono HW11.out.size)⟩
end Go.Proofs.YtdjiebiobdhihaaDoor
