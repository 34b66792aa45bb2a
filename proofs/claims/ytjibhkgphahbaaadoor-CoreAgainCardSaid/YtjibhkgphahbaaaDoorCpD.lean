/- Core: Is, whole. -/
import Derived.Test.YtjibhkgphahbaaaDoorCpC
namespace Go.Proofs.YtjibhkgphahbaaaDoor.Tm
open Go.RowKit
set_option linter.unusedVariables false
def isB (l : List NodeA) : Bool := ordB l && !l.any (badC l)
set_option maxRecDepth 100000 in
set_option maxHeartbeats 4000000 in
theorem cloC_any (l : List NodeA) (a : Option Addr) (c B k : Nat) (n : NodeA) (w : World) (hA : TabR w l a c) (hl : l.length ≤ 3000) (hn : NodeOk n) (hst : standsB n k = true) (hk : k ≤ l.length) (hB : w.heap[B]? = some (.cells #[.slice a l.length c] 24 (0, 0))) :
    Calls Tryd.prog 27 #[.agg #[.int .i8 n.op, .int .i8 n.len, .int .i64 n.a0, .int .i64 n.a1, .int .i64 n.a2, .int .i64 n.sort, .int .i64 n.fn, .int .i64 n.num], .pointer (some ⟨B, 0, none⟩)] w fun e w' => e = .returned (.bool (badC l n)) ∧ Below w.heap.size w w' := by
  obtain ⟨W0, hW0⟩ : ∃ W0, W0 = w.alloc (.cells #[.int .i8 n.op, .int .i8 n.len, .int .i64 n.a0, .int .i64 n.a1, .int .i64 n.a2, .int .i64 n.sort, .int .i64 n.fn, .int .i64 n.num] 36) := ⟨_, rfl⟩
  have hB0 : Below w.heap.size w W0 := by rw [hW0]; exact (Below.refl _ w).alloc (Nat.le_refl _) _
  have hn0 : W0.heap[w.heap.size]? = some (.cells #[.int .i8 n.op, .int .i8 n.len, .int .i64 n.a0, .int .i64 n.a1, .int .i64 n.a2, .int .i64 n.sort, .int .i64 n.fn, .int .i64 n.num] 36 (0, 0)) := by rw [hW0]; exact heap_alloc_new w _
  obtain ⟨n0, n1, n2, n3, n4, n5, n6, n7, zn⟩ := node_box hn0
  have b0 : w.cell? ⟨B, 0, none⟩ = some (.slice a l.length c) := (cell_of_row _ _ 0 _ _ _ hB).trans rfl
  have bz := (Array.getElem?_eq_some_iff.1 hB).1
  obtain ⟨q, hq⟩ : ∃ q, isCoB l n = q := ⟨_, rfl⟩
  have hr : badC l n = !q := by unfold badC; rw [hq]
  have HC : Hid (Calls Tryd.prog 28 #[.slice a l.length c, .agg #[.int .i8 n.op, .int .i8 n.len, .int .i64 n.a0, .int .i64 n.a1, .int .i64 n.a2, .int .i64 n.sort, .int .i64 n.fn, .int .i64 n.num]] W0 fun e w' => e = .returned (.bool q) ∧ Below W0.heap.size W0 w') := (isCore_any l a c k n q W0 (hA.below hB0) hl hn hst hk hq).mono fun e w' ⟨h1, h2⟩ => ⟨h1, h2⟩
  have HB0 := Lib.hid hB0
  rw [hr]
  clear hr hq hA hn hst hB hB0 hn0
  go_enter Tryd.func27, Tryd.ntmps27
  go_wp2_with fail
  rw [← hW0]
  clear hW0
  refine HC.out.mono ?_
  rintro e w1 ⟨rfl, hb1⟩
  have HB1 : Hid (Below w.heap.size w w1) := HB0.out.trans (hb1.mono HB0.out.size)
  clear hb1
  go_wp2_with fail
  go_ret
  exact ⟨rfl, HB1.out⟩
theorem IndexC_any (l : List NodeA) (a : Option Addr) (c B : Nat) (w : World) (hA : TabR w l a c) (hst : ∀ (k : Nat) (n : NodeA), l[k]? = some n → standsB n k = true) (hl : l.length ≤ 3000) (hB : w.heap[B]? = some (.cells #[.slice a l.length c] 24 (0, 0))) :
    Calls Tryd.prog 42 #[.slice a l.length c, .func (.func 27) #[] #[.pointer (some ⟨B, 0, none⟩)]] w fun e w' => (∃ i : Int, e = .returned (.int .i64 i) ∧ ((l.any (badC l) = true ∧ 0 ≤ i) ∨ (l.any (badC l) = false ∧ i = -1))) ∧ Below w.heap.size w w' := by
  obtain ⟨q, hq⟩ : ∃ q, l.any (badC l) = q := ⟨_, rfl⟩
  rw [hq]
  have HQ := Lib.hid hq
  have HC : Hid (∀ (V : World) (k : Nat) (n : NodeA), Below w.heap.size w V → l[k]? = some n → Calls Tryd.prog 27 #[.agg #[.int .i8 n.op, .int .i8 n.len, .int .i64 n.a0, .int .i64 n.a1, .int .i64 n.a2, .int .i64 n.sort, .int .i64 n.fn, .int .i64 n.num], .pointer (some ⟨B, 0, none⟩)] V fun e w' => e = .returned (.bool (badC l n)) ∧ Below V.heap.size V w') := fun V k n hV hn => cloC_any l a c B k n V (hA.below hV) hl (hA.ok n (List.mem_of_getElem? hn)) (hst k n hn) (Nat.le_of_lt (List.getElem?_eq_some_iff.1 hn).1) ((hV.block _ (Array.getElem?_eq_some_iff.1 hB).1).trans hB)
  have HA := Lib.hid hA
  have hcap := hA.le
  have hmx : l.length ≤ 9223372036854775807 := by omega
  clear hA hB hq
  go_enter Tryd.func42, Tryd.ntmps42
  go_wp2
  go_loopw [8] (fun i wr => ∃ k : Nat, k ≤ l.length ∧ i = .int .i64 k ∧ Hid (Below w.heap.size w wr) ∧ Hid ((l.take k).any (badC l) = false)) (fun i _ => l.length - (intOf i).toNat)
  case atStart => exact ⟨0, Nat.zero_le _, rfl, Below.refl _ _, by show _ = _; rw [List.take_zero]; rfl⟩
  case round =>
    obtain ⟨k, hkl, rfl, HW, HE⟩ := hrel
    by_cases hlt : k < l.length
    · obtain ⟨n, hn⟩ : ∃ n, l[k]? = some n := ⟨_, List.getElem?_eq_getElem hlt⟩
      obtain ⟨g, o, rfl, hg, q0, q1, q2, q3, q4, q5, q6, q7⟩ := (HA.out.below HW.out).node hn
      have HN := Lib.hid hn
      obtain ⟨t, ht⟩ : ∃ t, badC l n = t := ⟨_, rfl⟩
      have HCn : Hid (Calls Tryd.prog 27 #[.agg #[.int .i8 n.op, .int .i8 n.len, .int .i64 n.a0, .int .i64 n.a1, .int .i64 n.a2, .int .i64 n.sort, .int .i64 n.fn, .int .i64 n.num], .pointer (some ⟨B, 0, none⟩)] wr fun e w' => e = .returned (.bool t) ∧ Below wr.heap.size wr w') := by show Calls _ _ _ _ _; rw [← ht]; exact HC.out wr k n HW.out hn
      have HT := Lib.hid ht
      clear hn ht
      cases t with
      | true =>
        go_wp2_with (go_at_call 27; refine HCn.out.mono ?_; rintro e w1 ⟨rfl, hb1⟩)
        go_ret
        exact ⟨⟨_, rfl, .inl ⟨HQ.out.symm.trans (any_mem HN.out HT.out), by omega⟩⟩, HW.out.trans (hb1.mono HW.out.size)⟩
      | false =>
        go_wp2_with (go_at_call 27; refine HCn.out.mono ?_; rintro e w1 ⟨rfl, hb1⟩)
        go_roundw
        case rel => exact ⟨k + 1, by omega, by go_num, HW.out.trans (hb1.mono HW.out.size), by show _ = _; rw [any_take HN.out, HE.out, HT.out]; rfl⟩
        case measure => simp [intOf]; omega
    · obtain rfl : k = l.length := by omega
      go_wp2
      go_ret
      exact ⟨⟨_, rfl, .inr ⟨by rw [← HQ.out]; have := HE.out; rwa [List.take_length] at this, rfl⟩⟩, HW.out⟩
theorem ContainsC_any (l : List NodeA) (a : Option Addr) (c B : Nat) (q : Bool) (w : World) (hA : TabR w l a c) (hst : ∀ (k : Nat) (n : NodeA), l[k]? = some n → standsB n k = true) (hl : l.length ≤ 3000) (hB : w.heap[B]? = some (.cells #[.slice a l.length c] 24 (0, 0))) (hq : l.any (badC l) = q) :
    Calls Tryd.prog 26 #[.slice a l.length c, .func (.func 27) #[] #[.pointer (some ⟨B, 0, none⟩)]] w fun e w' => e = .returned (.bool q) ∧ Below w.heap.size w w' := by
  have HI : Hid (Calls Tryd.prog 42 #[.slice a l.length c, .func (.func 27) #[] #[.pointer (some ⟨B, 0, none⟩)]] w fun e w' => (∃ i : Int, e = .returned (.int .i64 i) ∧ decide (0 ≤ i) = q) ∧ Below w.heap.size w w') := by
    refine (IndexC_any l a c B w hA hst hl hB).mono ?_
    rintro e w' ⟨⟨i, rfl, hi⟩, hb⟩
    refine ⟨⟨i, rfl, ?_⟩, hb⟩
    rcases hi with ⟨h1, h2⟩ | ⟨h1, rfl⟩
    · rw [← hq, h1]; exact decide_eq_true h2
    · rw [← hq, h1]; rfl
  clear hA hB hq
  go_enter Tryd.func26, Tryd.ntmps26
  go_wp2_with fail
  refine HI.out.mono ?_
  rintro e w1 ⟨⟨i, rfl, hi⟩, hb1⟩
  have HB1 := Lib.hid hb1
  clear hb1
  cases q with
  | true =>
    have hi := of_decide_eq_true hi
    go_wp2_with fail
    go_ret
    exact ⟨rfl, HB1.out⟩
  | false =>
    have hi := of_decide_eq_false hi
    go_wp2_with fail
    go_ret
    exact ⟨rfl, HB1.out⟩
set_option maxRecDepth 100000 in

set_option maxRecDepth 100000 in
set_option maxHeartbeats 4000000 in
theorem Is_any (l : List NodeA) (a : Option Addr) (c : Nat) (q : Bool) (w : World) (hG : GT w) (hA : TabR w l a c) (hl : l.length ≤ 3000) (hq : isB l = q) :
    Calls Tryd.prog 13 #[.agg #[.slice a l.length c]] w fun e w' => e = .returned (.bool q) ∧ Below w.heap.size w w' := by
  obtain ⟨W0, hW0⟩ : ∃ W0, W0 = w.alloc (.cells #[.slice a l.length c] 24) := ⟨_, rfl⟩
  have HB0 : Hid (Below w.heap.size w W0) := by show Below _ _ _; rw [hW0]; exact (Below.refl _ w).alloc (Nat.le_refl _) _
  have hx0 : W0.heap[w.heap.size]? = some (.cells #[.slice a l.length c] 24 (0, 0)) := by rw [hW0]; exact heap_alloc_new w _
  have HXR : Hid (∀ V, Below W0.heap.size W0 V → V.heap[w.heap.size]? = some (.cells #[.slice a l.length c] 24 (0, 0))) := fun V hV => (hV.block _ (Array.getElem?_eq_some_iff.1 hx0).1).trans hx0
  obtain ⟨x0, _, xz⟩ := box3' hx0
  obtain ⟨r, hr⟩ : ∃ r, ordB l = r := ⟨_, rfl⟩
  have HO : Hid (Calls Tryd.prog 25 #[.agg #[.slice a l.length c]] W0 fun e w' => e = .returned (.bool r) ∧ Below W0.heap.size W0 w') := Ordered_any l a c r W0 (hG.below HB0.out) (hA.below HB0.out) hl hr
  cases r with
  | false =>
    obtain rfl : false = q := by rw [← hq]; unfold isB; rw [hr]; rfl
    clear hx0 hG hA hq hr
    go_enter Tryd.func13, Tryd.ntmps13
    go_wp2_with fail
    rw [← hW0]
    clear hW0
    refine HO.out.mono ?_
    rintro e w1 ⟨rfl, hb1⟩
    have HB1 : Hid (Below w.heap.size w w1) := HB0.out.trans (hb1.mono HB0.out.size)
    clear hb1
    go_wp2_with fail
    go_ret
    exact ⟨rfl, HB1.out⟩
  | true =>
    have hok : mayT l = true := by unfold ordB at hr; exact (Bool.and_eq_true _ _ ▸ hr).1
    have hst : ∀ (k : Nat) (n : NodeA), l[k]? = some n → standsB n k = true := fun k n hk => (ok_at (mayT_ok hok).2 hk).1
    obtain ⟨u, hu⟩ : ∃ u, l.any (badC l) = u := ⟨_, rfl⟩
    obtain rfl : (!u) = q := by rw [← hq]; unfold isB; rw [hr, hu]; rfl
    have HCo : Hid (∀ V, Below W0.heap.size W0 V → Calls Tryd.prog 26 #[.slice a l.length c, .func (.func 27) #[] #[.pointer (some ⟨w.heap.size, 0, none⟩)]] V fun e w' => e = .returned (.bool u) ∧ Below V.heap.size V w') := fun V hV => ContainsC_any l a c w.heap.size u V (hA.below (HB0.out.trans (hV.mono HB0.out.size))) hst hl (HXR.out V hV) hu
    have HR : Hid (∀ V, Below W0.heap.size W0 V → V.cell? ⟨w.heap.size, 0, none⟩ = some (.slice a l.length c) ∧ V.frozen? ⟨w.heap.size, 0, none⟩ = false ∧ w.heap.size < V.heap.size) := fun V hV => box3' (HXR.out V hV)
    clear hx0 hG hA hq hr hok hst hu
    go_enter Tryd.func13, Tryd.ntmps13
    go_wp2_with fail
    rw [← hW0]
    clear hW0
    refine HO.out.mono ?_
    rintro e w1 ⟨rfl, hb1⟩
    have HB1 := Lib.hid hb1
    clear x0 xz
    obtain ⟨x0, _, xz⟩ := HR.out w1 hb1
    clear hb1
    go_wp2_with fail
    refine (HCo.out _ HB1.out).mono ?_
    rintro e w2 ⟨rfl, hb2⟩
    have HB2 : Hid (Below w.heap.size w w2) := HB0.out.trans ((HB1.out.trans (hb2.mono HB1.out.size)).mono HB0.out.size)
    clear hb2
    go_wp2_with fail
    go_ret
    exact ⟨rfl, HB2.out⟩
end Go.Proofs.YtjibhkgphahbaaaDoor.Tm
