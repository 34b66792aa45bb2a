/- The law TermCuts, walked. -/
import Derived.Test.YtdjiebiobdhihaaDoorTmX
import Derived.Deep.RegionHeld3
import Derived.BigQuiet
namespace Go.Proofs.YtdjiebiobdhihaaDoor
open Go.RowKit
set_option linter.unusedVariables false
theorem own_after {w w' : World} {T : TypeId} {v : Value} (h : Below (w.alloc (.cells #[v] T)).drew.heap.size (w.alloc (.cells #[v] T)).drew w') : w'.cell? ⟨w.heap.size, 0, none⟩ = some v ∧ w'.frozen? ⟨w.heap.size, 0, none⟩ = false ∧ w'.heap[w.heap.size]? = some (.cells #[v] T (0, 0)) := by
  have e0 : (w.alloc (.cells #[v] T)).drew.heap[w.heap.size]? = some (.cells #[v] T (0, 0)) := heap_alloc_new w _
  have e1 := (h.block _ (Array.getElem?_eq_some_iff.1 e0).1).trans e0
  exact ⟨(cell_of_row _ _ 0 _ _ _ e1).trans rfl, by simp [World.frozen?, e1], e1⟩
theorem set_box {w : World} {b : Nat} {u v : Value} {t : TypeId} (h : w.heap[b]? = some (.cells #[u] t (0, 0))) : (w.setCell ⟨b, 0, none⟩ v).heap[b]? = some (.cells #[v] t (0, 0)) := by
  simp [World.setCell, Array.getElem?_modify, h]
theorem wrap_sm {x : Int} (h : 0 ≤ x) (h2 : x ≤ 10000000000) : wrap64 x = x := by unfold wrap64; omega
theorem kwrap_sm {x : Int} (h : 0 ≤ x) (h2 : x ≤ 10000000000) : IntKind.i64.wrap x = x := by rw [IntKind.wrap_i64]; omega
theorem len_take {α : Type} {l : List α} {k : Nat} (h : k ≤ l.length) : (l.take k).length = k := by rw [List.length_take, Nat.min_eq_left h]
theorem cut_put (l : List NodeA) (hm : mayT l = true) {i : Nat} {y : NodeA} (hy : l[i]? = some y) (hi : 2 ≤ i) (ua : Option Addr) (uc : Nat) (V : World) (hG : GT V) (hT : TabR V (l.take i) ua uc) (hn : NodeOk y) (hl3 : l.length ≤ 300) :
    Calls Tryd.prog 10 #[.agg #[.slice ua i uc], .agg #[.int .i8 y.op, .int .i8 y.len, .int .i64 y.a0, .int .i64 y.a1, .int .i64 y.a2, .int .i64 y.sort, .int .i64 y.fn, .int .i64 y.num], .int .i64 300] V fun e w' => ∃ a' c', e = .returned (.tuple #[.agg #[.slice a' (i + 1) c'], .int .i64 i, .int .i64 0]) ∧ TabR w' (l.take (i + 1)) a' c' ∧ Below V.heap.size V w' := by
  have hil := (List.getElem?_eq_some_iff.1 hy).1
  have hlen := len_take (l := l) (k := i) (by omega)
  obtain ⟨hs, hno⟩ := ok_at (mayT_ok hm).2 hy
  have hni : y ∉ l.take i := fun h => by
    obtain ⟨j, hj⟩ := List.getElem?_of_mem h
    have hjl := (List.getElem?_eq_some_iff.1 hj).1
    rw [hlen] at hjl
    rw [List.getElem?_take, if_pos hjl] at hj
    exact hno j hjl hj
  have h := put_new (l.take i) ua uc y 300 V hG hT hn ⟨by decide, by decide⟩ (by omega) (mayT_take hm hi) (by rw [hlen]; exact hs) hni (by omega)
  rw [hlen] at h
  refine h.mono ?_
  rintro e w' ⟨L, a', c', rfl, rfl, hT', hb⟩
  rw [← take_snoc hy] at hT' ⊢
  rw [len_take (by omega)]
  exact ⟨a', c', rfl, hT', hb⟩
/-- A table's row lies in no block that holds a slice; so it stays when that is written. -/
theorem TabR.off {w w' : World} {l : List NodeA} {a : Option Addr} {c B : Nat} {x : Option Addr} {i j : Nat} {T : TypeId} {z : Nat × Nat} (h : TabR w l a c) (hB : w.heap[B]? = some (.cells #[.slice x i j] T z)) (hs : w.heap.size ≤ w'.heap.size)
    (hc : ∀ g o, g < w.heap.size → g ≠ B → w'.cell? ⟨g, o, none⟩ = w.cell? ⟨g, o, none⟩) : TabR w' l a c := by
  refine ⟨h.le, h.cap, fun h0 => ?_, h.ok⟩
  obtain ⟨g, o, e, hg, hv⟩ := h.tat h0
  have hne : g ≠ B := fun hgb => by
    subst hgb
    obtain ⟨y, hy⟩ : ∃ y, l[0]? = some y := ⟨_, List.getElem?_eq_getElem (by rw [len_flat nodeC_len] at h0; omega)⟩
    have e0 := hv 0 _ ((get_flat nodeC_len l 0 0 y hy (by omega)).trans rfl)
    rw [cell_of_row _ _ _ _ _ _ hB] at e0
    match o, e0 with
    | 0, e0 => cases e0
    | o + 1, e0 => simp at e0
  exact ⟨g, o, e, by omega, fun i v hi => (hc g _ hg hne).trans (hv i v hi)⟩
theorem mid_alloc {wr w5 : World} {L : List NodeA} {va : Option Addr} {vc n : Nat} {T : TypeId} (hbw : Below wr.heap.size wr w5) (hT : TabR w5 L va vc) :
    Below wr.heap.size wr (w5.alloc (.cells #[.slice va n vc] T)) ∧ (w5.alloc (.cells #[.slice va n vc] T)).cell? ⟨w5.heap.size, 0, none⟩ = some (.slice va n vc) ∧ TabR (w5.alloc (.cells #[.slice va n vc] T)) L va vc :=
  ⟨hbw.alloc hbw.size _, (cell_of_row _ _ 0 _ _ _ (heap_alloc_new w5 (.cells #[.slice va n vc] T))).trans rfl, hT.below ((Below.refl _ w5).alloc (Nat.le_refl _) _)⟩
theorem mid_set {wr w5 : World} {L : List NodeA} {va x : Option Addr} {vc n i j : Nat} {T : TypeId} (hbw : Below wr.heap.size wr w5) (hk : w5.heap[wr.heap.size]? = some (.cells #[.slice x i j] T (0, 0))) (hT : TabR w5 L va vc) :
    Below wr.heap.size wr (w5.setCell ⟨wr.heap.size, 0, none⟩ (.slice va n vc)) ∧ (w5.setCell ⟨wr.heap.size, 0, none⟩ (.slice va n vc)).cell? ⟨wr.heap.size, 0, none⟩ = some (.slice va n vc) ∧ TabR (w5.setCell ⟨wr.heap.size, 0, none⟩ (.slice va n vc)) L va vc :=
  ⟨hbw.setCell (p := ⟨wr.heap.size, 0, none⟩) (Nat.le_refl _) _, (cell_of_row _ _ 0 _ _ _ (set_box hk)).trans rfl,
    hT.off hk (by simp [World.setCell]) fun g o _ hne => World.cell?_setCell_other w5 ⟨wr.heap.size, 0, none⟩ ⟨g, o, none⟩ _ (fun e => by cases e; exact hne rfl)⟩
theorem cut_end {wr X : World} {L : List NodeA} {va ua : Option Addr} {vc n i uc b : Nat} {T : TypeId} (hbX : Below wr.heap.size wr X) (hU : wr.heap[b]? = some (.cells #[.slice ua i uc] T (0, 0))) (hT : TabR X L va vc) :
    TabR (X.setCell ⟨b, 0, none⟩ (.slice va n vc)) L va vc ∧ (X.setCell ⟨b, 0, none⟩ (.slice va n vc)).heap[b]? = some (.cells #[.slice va n vc] T (0, 0)) := by
  have e := (hbX.block _ (Array.getElem?_eq_some_iff.1 hU).1).trans hU
  exact ⟨hT.off e (by simp [World.setCell]) fun g o _ hne => World.cell?_setCell_other X ⟨b, 0, none⟩ ⟨g, o, none⟩ _ (fun e => by cases e; exact hne rfl), set_box e⟩
theorem box_free {wr X : World} {b : Nat} {v : Value} {T : TypeId} (hbX : Below wr.heap.size wr X) (hU : wr.heap[b]? = some (.cells #[v] T (0, 0))) : X.cell? ⟨b, 0, none⟩ = some v ∧ X.frozen? ⟨b, 0, none⟩ = false ∧ b < X.heap.size := by
  have e := (hbX.block _ (Array.getElem?_eq_some_iff.1 hU).1).trans hU
  exact ⟨(cell_of_row _ _ 0 _ _ _ e).trans rfl, by simp [World.frozen?, e], (Array.getElem?_eq_some_iff.1 e).1⟩
theorem cut_num {n k : Int} (h1 : 1 ≤ k) (h2 : k ≤ 1000) : Int.tmod n k + k ≤ 2000 ∧ 0 ≤ Int.tmod n k + k ∧ 0 ≤ Int.tmod (Int.tmod n k + k) k ∧ Int.tmod (Int.tmod n k + k) k ≤ k - 1 := by
  have a1 := Int.tmod_lt_of_pos n (show 0 < k by omega)
  have a2 : -k < Int.tmod n k := by
    have := Int.lt_tmod_of_pos n (show 0 < k by omega)
    omega
  have a3 : 0 ≤ Int.tmod n k + k := by omega
  have a4 := Int.tmod_nonneg k a3
  have a5 := Int.tmod_lt_of_pos (Int.tmod n k + k) (show 0 < k by omega)
  exact ⟨by omega, a3, a4, by omega⟩
set_option maxRecDepth 100000 in
set_option maxHeartbeats 8000000 in
theorem TermCuts_c (w : World) (l : List NodeA) (a : Option Addr) (c : Nat) (hA : TabR w l a c) (n : Int) (hn : I64 n) (hG : GT w) :
    Calls Tryd.prog 6 #[.agg #[.slice a l.length c], .int .i64 n] w fun e w' => e = .returned (.bool true) ∧ Below w.heap.size w w' := by
  have hlm : l.length ≤ 9223372036854775807 := by have h1 := hA.le; have h2 := hA.cap; simp only [maxLen] at h2; omega
  have hle := hA.le
  obtain ⟨W0, hW0⟩ : ∃ W0, W0 = w.alloc (.cells #[.slice a l.length c] 24) := ⟨_, rfl⟩
  have hB0 : Below w.heap.size w W0 := by rw [hW0]; exact (Below.refl _ w).alloc (Nat.le_refl _) _
  have hsz : W0.heap.size = w.heap.size + 1 := by rw [hW0]; simp
  have hX0 : W0.heap[w.heap.size]? = some (.cells #[.slice a l.length c] 24 (0, 0)) := by rw [hW0]; exact heap_alloc_new w _
  have HWk : Hid (∀ V, Below w.heap.size w V → Calls Tryd.prog 9 #[] V fun e w' => e = .returned (.bool true) ∧ Below V.heap.size V w') := fun V hV => wakes_any V (hG.below hV)
  have HA := Lib.hid hA
  have HB0 := Lib.hid hB0
  have HXX : Hid (∀ V, Below W0.heap.size W0 V → V.cell? ⟨w.heap.size, 0, none⟩ = some (.slice a l.length c) ∧ w.heap.size < V.heap.size) := fun V hV => by
    have e0 := (hV.block _ (by omega)).trans hX0
    exact ⟨(cell_of_row _ _ 0 _ _ _ e0).trans rfl, (Array.getElem?_eq_some_iff.1 e0).1⟩
  obtain ⟨x0, xz⟩ := HXX.out _ (Below.refl _ _)
  cases hgr : decide (300 < l.length) with
  | true =>
    have HGr : Hid (Calls Tryd.prog 7 #[.agg #[.slice a l.length c]] W0 fun e w' => e = .returned (.bool true) ∧ Below W0.heap.size W0 w') := Great_any l a c true W0 hlm hgr
    clear hgr hA hB0 hX0 hsz hG hn
    go_enter Tryd.func6, Tryd.ntmps6
    go_wp2_with (first | (go_at_call 7; rw [← hW0]; clear hW0; refine HGr.out.mono ?_; rintro e w1 ⟨rfl, hb1⟩; have HB1 : Hid (Below w.heap.size w w1) := HB0.out.trans (hb1.mono HB0.out.size)) | (go_at_call 9; refine (HWk.out _ HB1.out).mono ?_; rintro e w2 ⟨rfl, hb2⟩))
    go_ret
    exact ⟨rfl, HB1.out.trans (hb2.mono HB1.out.size)⟩
  | false =>
  have HGr : Hid (Calls Tryd.prog 7 #[.agg #[.slice a l.length c]] W0 fun e w' => e = .returned (.bool false) ∧ Below W0.heap.size W0 w') := Great_any l a c false W0 hlm hgr
  have hl3 : l.length ≤ 300 := by have := of_decide_eq_false hgr; omega
  cases hm : mayT l with
  | false =>
    have HCk : Hid (∀ V, Below w.heap.size w V → Calls Tryd.prog 8 #[.agg #[.slice a l.length c]] V fun e w' => e = .returned (.int .i64 2) ∧ Below V.heap.size V w') := fun V hV => RCheck_any l a c 2 V (hA.below hV) (by omega) (by rw [hm]; rfl)
    clear hgr hA hB0 hX0 hsz hG hm hn
    go_enter Tryd.func6, Tryd.ntmps6
    go_wp2_with (first | (go_at_call 7; rw [← hW0]; clear hW0; refine HGr.out.mono ?_; rintro e w1 ⟨rfl, hb1⟩; have HB1 : Hid (Below w.heap.size w w1) := HB0.out.trans (hb1.mono HB0.out.size); clear x0 xz; obtain ⟨x0, xz⟩ := HXX.out _ hb1) | (go_at_call 8; refine (HCk.out _ HB1.out).mono ?_; rintro e w2 ⟨rfl, hb2⟩; have HB2 : Hid (Below w.heap.size w w2) := HB1.out.trans (hb2.mono HB1.out.size)) | (go_at_call 9; refine (HWk.out _ HB2.out).mono ?_; rintro e w3 ⟨rfl, hb3⟩))
    go_ret
    exact ⟨rfl, HB2.out.trans (hb3.mono HB2.out.size)⟩
  | true =>
  have HCk : Hid (∀ V, Below w.heap.size w V → Calls Tryd.prog 8 #[.agg #[.slice a l.length c]] V fun e w' => e = .returned (.int .i64 0) ∧ Below V.heap.size V w') := fun V hV => RCheck_any l a c 0 V (hA.below hV) (by omega) (by rw [hm]; rfl)
  have HGl := Lib.hid hG
  have hl2 : 2 ≤ l.length := mayT_len hm
  have HM := Lib.hid hm
  obtain ⟨z1, z2, z3, z4⟩ := cut_num (n := n) (k := (l.length : Int) - 1) (by omega) (by omega)
  obtain ⟨m, hmz⟩ : ∃ m : Nat, (m : Int) = 2 + Int.tmod (Int.tmod n ((l.length : Int) - 1) + ((l.length : Int) - 1)) ((l.length : Int) - 1) := ⟨(2 + Int.tmod (Int.tmod n ((l.length : Int) - 1) + ((l.length : Int) - 1)) ((l.length : Int) - 1)).toNat, by omega⟩
  have hm2 : 2 ≤ m := by omega
  have hml : m ≤ l.length := by omega
  have HMZ := Lib.hid hmz
  have HZ := Lib.hid (show _ ∧ _ from ⟨z1, z2⟩)
  have HCut : Hid (∀ V, Below w.heap.size w V → Calls Tryd.prog 12 #[.agg #[.slice a l.length c], .int .i64 m] V fun e w' => ∃ ua uc, e = .returned (.tuple #[.agg #[.slice ua m uc], .int .i64 0]) ∧ TabR w' (l.take m) ua uc ∧ Below V.heap.size V w') := fun V hV => by
    refine (Cut_any l a c m V (hG.below hV) (hA.below hV) (by omega) hm hm2 hml).mono ?_
    rintro e w' ⟨L, ua, uc, rfl, rfl, hT, hb⟩
    rw [len_take hml]
    exact ⟨ua, uc, rfl, hT, hb⟩
  have HPut : Hid (∀ V i ua uc y, Below w.heap.size w V → TabR V (l.take i) ua uc → 2 ≤ i → l[i]? = some y → Calls Tryd.prog 10 #[.agg #[.slice ua i uc], .agg #[.int .i8 y.op, .int .i8 y.len, .int .i64 y.a0, .int .i64 y.a1, .int .i64 y.a2, .int .i64 y.sort, .int .i64 y.fn, .int .i64 y.num], .int .i64 300] V fun e w' => ∃ a' c', e = .returned (.tuple #[.agg #[.slice a' (i + 1) c'], .int .i64 i, .int .i64 0]) ∧ TabR w' (l.take (i + 1)) a' c' ∧ Below V.heap.size V w') := fun V i ua uc y hV hT hi hy => by
    have hil := (List.getElem?_eq_some_iff.1 hy).1
    have h := cut_put l hm hy hi ua uc V (hG.below hV) hT (hA.ok y (List.mem_of_getElem? hy)) hl3
    exact h
  have HSm : Hid (∀ V ua uc, Below w.heap.size w V → TabR V (l.take l.length) ua uc → Calls Tryd.prog 13 #[.agg #[.slice a l.length c], .agg #[.slice ua l.length uc]] V fun e w' => e = .returned (.bool true) ∧ Below V.heap.size V w') := fun V ua uc hV hT => by
    rw [List.take_length] at hT
    exact Same_any l l a ua c uc true V (hA.below hV) hT (decide_eq_true rfl)
  have hk1 : wrap64 ((l.length : Int) - 1) = (l.length : Int) - 1 := by unfold wrap64; omega
  have hk2 : wrap64 (Int.tmod n ((l.length : Int) - 1) + ((l.length : Int) - 1)) = Int.tmod n ((l.length : Int) - 1) + ((l.length : Int) - 1) := by unfold wrap64; omega
  have hk3 : wrap64 (2 + Int.tmod (Int.tmod n ((l.length : Int) - 1) + ((l.length : Int) - 1)) ((l.length : Int) - 1)) = (m : Int) := by rw [hmz]; unfold wrap64; omega
  have hk0 : ¬ ((l.length : Int) - 1 = 0) := by omega
  have HK := Lib.hid (show _ ∧ _ ∧ _ from ⟨hk1, hk2, hk3⟩)
  clear z1 z2 z3 z4 hmz
  clear hgr hA hB0 hX0 hsz hG hm
  go_enter Tryd.func6, Tryd.ntmps6
  go_wp2_with (first | (go_at_call 7; rw [← hW0]; clear hW0; refine HGr.out.mono ?_; rintro e w1 ⟨rfl, hb1⟩; have HB1 : Hid (Below w.heap.size w w1) := HB0.out.trans (hb1.mono HB0.out.size); clear x0 xz; obtain ⟨x0, xz⟩ := HXX.out _ hb1) | (go_at_call 8; refine (HCk.out _ HB1.out).mono ?_; rintro e w2 ⟨rfl, hb2⟩; have HB2 : Hid (Below w.heap.size w w2) := HB1.out.trans (hb2.mono HB1.out.size); have HC2 : Hid (Below W0.heap.size W0 w2) := hb1.trans (hb2.mono hb1.size); clear x0 xz; obtain ⟨x0, xz⟩ := HXX.out _ HC2.out))
  rw [hk3]
  refine (HCut.out w2 HB2.out).mono ?_
  rintro e w3 ⟨ua, uc, rfl, hTu, hb3⟩
  obtain ⟨W4, hW4⟩ : ∃ W4, W4 = w3.alloc (.cells #[.slice ua m uc] 24) := ⟨_, rfl⟩
  have hb34 : Below w3.heap.size w3 W4 := by rw [hW4]; exact (Below.refl _ _).alloc (Nat.le_refl _) _
  have hu4 : W4.heap[w3.heap.size]? = some (.cells #[.slice ua m uc] 24 (0, 0)) := by rw [hW4]; exact heap_alloc_new w3 _
  have HB4 : Hid (Below w.heap.size w W4) := (HB2.out.trans (hb3.mono HB2.out.size)).trans (hb34.mono (HB2.out.trans (hb3.mono HB2.out.size)).size)
  have HC4 : Hid (Below W0.heap.size W0 W4) := (HC2.out.trans (hb3.mono HC2.out.size)).trans (hb34.mono (HC2.out.trans (hb3.mono HC2.out.size)).size)
  have HT4 : Hid (TabR W4 (l.take m) ua uc) := hTu.below hb34
  have HU4 := Lib.hid hu4
  have hw03 : W0.heap.size ≤ w3.heap.size := (HC2.out.trans (hb3.mono HC2.out.size)).size
  have u0 : W4.cell? ⟨w3.heap.size, 0, none⟩ = some (.slice ua m uc) := (cell_of_row _ _ 0 _ _ _ hu4).trans rfl
  have uz := World.block_lt_of_cell? W4 ⟨w3.heap.size, 0, none⟩ u0
  clear x0 xz
  obtain ⟨x0, xz⟩ := HXX.out w3 (HC2.out.trans (hb3.mono HC2.out.size))
  clear hb1 hb2 hb3 hTu hb34 hu4 hk1 hk2 hk3 hk0
  have d1 : decide ((l.length : Int) < (m : Int)) = false := decide_eq_false (by omega)
  have d1' : decide (l.length < m) = false := decide_eq_false (by omega)
  go_wp2_with fail
  rw [← hW4]
  clear hW4 u0 uz x0 xz d1 d1'
  go_loopw [8] (fun vi wr => ∃ (i : Nat) (ua : Option Addr) (uc : Nat), m ≤ i ∧ i ≤ l.length ∧ vi = .int .i64 i ∧ Hid (Below w.heap.size w wr) ∧ Hid (Below W0.heap.size W0 wr) ∧ Hid (TabR wr (l.take i) ua uc) ∧ Hid (wr.heap[w3.heap.size]? = some (.cells #[.slice ua i uc] 24 (0, 0)))) (fun vi _ => l.length - (intOf vi).toNat)
  case atStart => exact ⟨m, ua, uc, Nat.le_refl _, hml, rfl, HB4, HC4, HT4, HU4⟩
  case round =>
    clear HT4 HU4
    obtain ⟨i, ua, uc, hmi, hil, rfl, HW, HV, HT, HU⟩ := hrel
    obtain ⟨x0, xz⟩ := HXX.out _ HV.out
    have u0 : wr.cell? ⟨w3.heap.size, 0, none⟩ = some (.slice ua i uc) := (cell_of_row _ _ 0 _ _ _ HU.out).trans rfl
    have uz := World.block_lt_of_cell? wr ⟨w3.heap.size, 0, none⟩ u0
    by_cases hlt : i < l.length
    · obtain ⟨y, hy⟩ : ∃ y, l[i]? = some y := ⟨_, List.getElem?_eq_getElem hlt⟩
      obtain ⟨g, o, he, gz, q0, q1, q2, q3, q4, q5, q6, q7⟩ := (HA.out.below HW.out).node hy
      subst he
      have HY := Lib.hid hy
      have H0 : Hid (wr.cell? ⟨w3.heap.size, 0, none⟩ = some (.slice ua i uc) ∧ wr.cell? ⟨w.heap.size, 0, none⟩ = some (.slice (some ⟨g, o, none⟩) l.length c) ∧ wr.cell? ⟨g, o + i * 8, none⟩ = some (.int .i8 y.op) ∧ wr.cell? ⟨g, o + i * 8 + 1, none⟩ = some (.int .i8 y.len) ∧ wr.cell? ⟨g, o + i * 8 + 2, none⟩ = some (.int .i64 y.a0) ∧ wr.cell? ⟨g, o + i * 8 + 3, none⟩ = some (.int .i64 y.a1) ∧ wr.cell? ⟨g, o + i * 8 + 4, none⟩ = some (.int .i64 y.a2) ∧ wr.cell? ⟨g, o + i * 8 + 5, none⟩ = some (.int .i64 y.sort) ∧ wr.cell? ⟨g, o + i * 8 + 6, none⟩ = some (.int .i64 y.fn) ∧ wr.cell? ⟨g, o + i * 8 + 7, none⟩ = some (.int .i64 y.num)) := ⟨u0, x0, q0, q1, q2, q3, q4, q5, q6, q7⟩
      have hi0 : (0 : Int) ≤ (i : Int) := by omega
      have hi1 : (i : Int) < (l.length : Int) := by omega
      have hi2 : 2 ≤ i := by omega
      have HQ : Hid (∀ (ob : Obj) g x, g < wr.heap.size → (wr.alloc ob).cell? ⟨g, x, none⟩ = wr.cell? ⟨g, x, none⟩) := fun ob g x h => ((Below.refl _ wr).alloc (Nat.le_refl _) ob).cell (p := ⟨g, x, none⟩) h
      clear hy
      go_wp2
      go_region_held3 (fun W => W.cell? ⟨w3.heap.size, 0, none⟩ = some (.slice ua i uc) ∧ W.cell? ⟨w.heap.size, 0, none⟩ = some (.slice (some ⟨g, o, none⟩) l.length c) ∧ W.cell? ⟨g, o + i * 8, none⟩ = some (.int .i8 y.op) ∧ W.cell? ⟨g, o + i * 8 + 1, none⟩ = some (.int .i8 y.len) ∧ W.cell? ⟨g, o + i * 8 + 2, none⟩ = some (.int .i64 y.a0) ∧ W.cell? ⟨g, o + i * 8 + 3, none⟩ = some (.int .i64 y.a1) ∧ W.cell? ⟨g, o + i * 8 + 4, none⟩ = some (.int .i64 y.a2) ∧ W.cell? ⟨g, o + i * 8 + 5, none⟩ = some (.int .i64 y.sort) ∧ W.cell? ⟨g, o + i * 8 + 6, none⟩ = some (.int .i64 y.fn) ∧ W.cell? ⟨g, o + i * 8 + 7, none⟩ = some (.int .i64 y.num))
        (first | exact H0.out | exact ⟨(hc1 _ _ uz).trans H0.out.1, (hc1 _ _ xz).trans H0.out.2.1, (hc1 _ _ gz).trans H0.out.2.2.1, (hc1 _ _ gz).trans H0.out.2.2.2.1, (hc1 _ _ gz).trans H0.out.2.2.2.2.1, (hc1 _ _ gz).trans H0.out.2.2.2.2.2.1, (hc1 _ _ gz).trans H0.out.2.2.2.2.2.2.1, (hc1 _ _ gz).trans H0.out.2.2.2.2.2.2.2.1, (hc1 _ _ gz).trans H0.out.2.2.2.2.2.2.2.2.1, (hc1 _ _ gz).trans H0.out.2.2.2.2.2.2.2.2.2⟩ | exact ⟨(hc2 _ _ _ uz).trans H0.out.1, (hc2 _ _ _ xz).trans H0.out.2.1, (hc2 _ _ _ gz).trans H0.out.2.2.1, (hc2 _ _ _ gz).trans H0.out.2.2.2.1, (hc2 _ _ _ gz).trans H0.out.2.2.2.2.1, (hc2 _ _ _ gz).trans H0.out.2.2.2.2.2.1, (hc2 _ _ _ gz).trans H0.out.2.2.2.2.2.2.1, (hc2 _ _ _ gz).trans H0.out.2.2.2.2.2.2.2.1, (hc2 _ _ _ gz).trans H0.out.2.2.2.2.2.2.2.2.1, (hc2 _ _ _ gz).trans H0.out.2.2.2.2.2.2.2.2.2⟩ | exact ⟨(HQ.out _ _ _ uz).trans H0.out.1, (HQ.out _ _ _ xz).trans H0.out.2.1, (HQ.out _ _ _ gz).trans H0.out.2.2.1, (HQ.out _ _ _ gz).trans H0.out.2.2.2.1, (HQ.out _ _ _ gz).trans H0.out.2.2.2.2.1, (HQ.out _ _ _ gz).trans H0.out.2.2.2.2.2.1, (HQ.out _ _ _ gz).trans H0.out.2.2.2.2.2.2.1, (HQ.out _ _ _ gz).trans H0.out.2.2.2.2.2.2.2.1, (HQ.out _ _ _ gz).trans H0.out.2.2.2.2.2.2.2.2.1, (HQ.out _ _ _ gz).trans H0.out.2.2.2.2.2.2.2.2.2⟩ | exact ⟨(hc3 _ _ _ uz).trans H0.out.1, (hc3 _ _ _ xz).trans H0.out.2.1, (hc3 _ _ _ gz).trans H0.out.2.2.1, (hc3 _ _ _ gz).trans H0.out.2.2.2.1, (hc3 _ _ _ gz).trans H0.out.2.2.2.2.1, (hc3 _ _ _ gz).trans H0.out.2.2.2.2.2.1, (hc3 _ _ _ gz).trans H0.out.2.2.2.2.2.2.1, (hc3 _ _ _ gz).trans H0.out.2.2.2.2.2.2.2.1, (hc3 _ _ _ gz).trans H0.out.2.2.2.2.2.2.2.2.1, (hc3 _ _ _ gz).trans H0.out.2.2.2.2.2.2.2.2.2⟩ | go_keep)
        (first | (go_at_call 10; refine (HPut.out wr.drew i ua uc y HW.out.drew HT.out.drew hi2 HY.out).mono ?_; rintro e w5 ⟨va, vc, rfl, hT5, hb5⟩; have hbw : Below wr.heap.size wr w5 := (Below.refl _ wr).drew.trans hb5; obtain ⟨hc1, hf1⟩ := bcell hbw; have hc2 := fun (ob : Obj) g x (h : g < wr.heap.size) => (((Below.refl _ w5).alloc (Nat.le_refl _) ob).cell (p := ⟨g, x, none⟩) (Nat.lt_of_lt_of_le h hbw.size)).trans (hc1 g x h)) | (go_at_call 10; refine (HPut.out (wr.alloc (.cells #[.slice none 0 0] 24)).drew i ua uc y (HW.out.alloc HW.out.size _).drew (HT.out.below ((Below.refl _ _).alloc (Nat.le_refl _) _)).drew hi2 HY.out).mono ?_; rintro e w5 ⟨va, vc, rfl, hT5, hb5⟩; have hbw : Below wr.heap.size wr w5 := ((Below.refl _ wr).alloc (Nat.le_refl _) _).drew.trans (hb5.mono ((Below.refl _ wr).alloc (Nat.le_refl _) _).size); obtain ⟨hc1, hf1⟩ := bcell hbw; obtain ⟨k0, kf, kh⟩ := own_after hb5; have KH := Lib.hid kh; clear kh; have hc3 := fun (v : Value) g x (h : g < wr.heap.size) => (World.cell?_setCell_other w5 ⟨wr.heap.size, 0, none⟩ ⟨g, x, none⟩ v (fun e => by cases e; exact Nat.lt_irrefl _ h)).trans (hc1 g x h)))
      all_goals
        have HT5 := Lib.hid hT5
        have HBW := Lib.hid hbw
        clear hT5 hb5 hbw hc1 hf1 u0 uz x0 xz gz q0 q1 q2 q3 q4 q5 q6 q7 H0 HQ hi2
        first
        | (obtain ⟨hbX, kX, hTX⟩ := mid_set (n := i + 1) HBW.out KH.out HT5.out
           clear hc3 k0 kf KH HBW HT5
           generalize w5.setCell ⟨wr.heap.size, 0, none⟩ (.slice va (i + 1) vc) = X at hbX kX hTX ⊢)
        | (obtain ⟨hbX, kX, hTX⟩ := mid_alloc (n := i + 1) (T := 24) HBW.out HT5.out
           clear hc2 HBW HT5
           generalize w5.alloc (.cells #[.slice va (i + 1) vc] 24) = X at hbX kX hTX ⊢)
        obtain ⟨uX, fX, uz⟩ := box_free hbX HU.out
        have HX := Lib.hid hbX
        have HTX := Lib.hid hTX
        have hwi : wrap64 ((i : Int) + 1) = (i : Int) + 1 := wrap_sm (by omega) (by omega)
        clear hbX hTX
        go_wp2
        have hsw := HB0.out.size
        obtain ⟨hTY, hUY⟩ := cut_end (n := i + 1) HX.out HU.out HTX.out
        refine ⟨⟨i + 1, va, vc, by omega, by omega, by go_num, ?_, ?_, hTY, hUY⟩, by simp [intOf]; omega⟩
        · exact (HW.out.trans (HX.out.mono HW.out.size)).setCell (p := ⟨w3.heap.size, 0, none⟩) (by show _ ≤ w3.heap.size; omega) _
        · exact (HV.out.trans (HX.out.mono HV.out.size)).setCell (p := ⟨w3.heap.size, 0, none⟩) (by show _ ≤ w3.heap.size; omega) _
    · obtain rfl : i = l.length := by omega
      have HS1 : Hid (Calls Tryd.prog 13 #[.agg #[.slice a l.length c], .agg #[.slice ua l.length uc]] wr fun e w' => e = .returned (.bool true) ∧ Below wr.heap.size wr w') := HSm.out wr ua uc HW.out HT.out
      clear HT HU
      go_wp2_with (first | (go_at_call 13; refine HS1.out.mono ?_; rintro e w6 ⟨rfl, hb6⟩; have HW6 : Hid (Below w.heap.size w w6) := HW.out.trans (hb6.mono HW.out.size)) | (go_at_call 9; refine (HWk.out _ HW6.out).mono ?_; rintro e w7 ⟨rfl, hb7⟩))
      go_ret
      exact ⟨rfl, HW6.out.trans (hb7.mono HW6.out.size)⟩
end Go.Proofs.YtdjiebiobdhihaaDoor
