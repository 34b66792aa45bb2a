/- Tables in order: the document's answer. -/
import Derived.Test.YtfbjgadgfjnamaaGreatDoorZOfF
import Derived.Test.YtfbjgadgfjnamaaGreatDoorZTmM
namespace Go.Proofs.YtfbjgadgfjnamaaGreatDoor.Tm
open Go.RowKit
set_option linter.unusedVariables false
theorem box3' {w : World} {b : Nat} {v : Value} {T : TypeId} (h : w.heap[b]? = some (.cells #[v] T (0, 0))) : w.cell? ⟨b, 0, none⟩ = some v ∧ w.frozen? ⟨b, 0, none⟩ = false ∧ b < w.heap.size :=
  ⟨(cell_of_row _ _ 0 _ _ _ h).trans rfl, by simp [World.frozen?, h], (Array.getElem?_eq_some_iff.1 h).1⟩
def opAt (l : List NodeA) (n : NodeA) : Int := (l.getD n.a0.toNat trueN).op
/-- A node that is not in order. -/
def badN (l : List NodeA) (n : NodeA) : Bool := decide (n.op = 11) && (decide (n.num = 0) || (decide (opAt l n = 11) || decide (opAt l n = 10)))
def ordB (l : List NodeA) : Bool := mayT l && !l.any (badN l)
theorem bad_no {l : List NodeA} {n : NodeA} (h : ¬ n.op = 11) : badN l n = false := by unfold badN; rw [decide_eq_false h]; rfl
theorem bad_num {l : List NodeA} {n : NodeA} (h : n.op = 11) (h2 : n.num = 0) : badN l n = true := by unfold badN; rw [decide_eq_true h, decide_eq_true h2]; rfl
theorem bad_add {l : List NodeA} {n : NodeA} (h : n.op = 11) (h2 : opAt l n = 11) : badN l n = true := by unfold badN; rw [decide_eq_true h, decide_eq_true h2, Bool.true_or, Bool.or_true]; rfl
theorem bad_lit {l : List NodeA} {n : NodeA} (h : n.op = 11) (h2 : opAt l n = 10) : badN l n = true := by unfold badN; rw [decide_eq_true h, decide_eq_true h2, Bool.or_true, Bool.or_true]; rfl
theorem bad_not {l : List NodeA} {n : NodeA} (h1 : ¬ n.num = 0) (h2 : ¬ opAt l n = 11) (h3 : ¬ opAt l n = 10) : badN l n = false := by unfold badN; rw [decide_eq_false h1, decide_eq_false h2, decide_eq_false h3, Bool.or_false, Bool.or_false, Bool.and_false]
set_option maxRecDepth 100000 in
set_option maxHeartbeats 4000000 in
theorem clo_any (l : List NodeA) (a : Option Addr) (c k B : Nat) (n : NodeA) (w : World) (hA : TabR w l a c) (hok : okFrom [] l = true) (hl : l.length ≤ 3000) (hB : w.heap[B]? = some (.cells #[.slice a l.length c] 33 (0, 0))) (hn : l[k]? = some n) :
    Calls Tryz.prog 84 #[.agg #[.int .i8 n.op, .int .i8 n.len, .int .i64 n.a0, .int .i64 n.a1, .int .i64 n.a2, .int .i64 n.sort, .int .i64 n.fn, .int .i64 n.num], .pointer (some ⟨B, 0, none⟩)] w fun e w' => e = .returned (.bool (badN l n)) ∧ Below w.heap.size w w' := by
  have HB0 : Hid (∀ o, Below w.heap.size w (w.alloc o)) := fun o => (Below.refl _ w).alloc (Nat.le_refl _) _
  obtain ⟨q, hq⟩ : ∃ q, badN l n = q := ⟨_, rfl⟩
  rw [hq]
  by_cases h0 : n.op = 11
  rotate_left
  · obtain rfl : false = q := (bad_no h0).symm.trans hq
    have e0 := ne_t h0
    clear hA hq h0 hn
    go_enter Tryz.func84, Tryz.ntmps84
    go_wp2
    go_ret
    exact ⟨rfl, HB0.out _⟩
  obtain ⟨b0, b1, -⟩ := stands_add (ok_at hok hn).1 h0
  have hkl := (List.getElem?_eq_some_iff.1 hn).1
  obtain ⟨m, hm⟩ : ∃ m : Nat, n.a0 = (m : Int) := ⟨n.a0.toNat, by omega⟩
  obtain ⟨y, hy⟩ : ∃ y, l[m]? = some y := ⟨_, List.getElem?_eq_getElem (by omega)⟩
  have hop : opAt l n = y.op := by unfold opAt; rw [hm, Int.toNat_natCast, List.getD_eq_getElem?_getD, hy]; rfl
  obtain ⟨g, o, rfl, hg, q0, q1, q2, q3, q4, q5, q6, q7⟩ := hA.node hy
  have x0 : w.cell? ⟨B, 0, none⟩ = some (.slice (some ⟨g, o, none⟩) l.length c) := (cell_of_row _ _ 0 _ _ _ hB).trans rfl
  have xz := (Array.getElem?_eq_some_iff.1 hB).1
  have hcap := hA.le
  have hmi : (m : Int) < (l.length : Int) := by omega
  have hm0 : (0 : Int) ≤ (m : Int) := by omega
  have e0 := ne_f h0
  clear hA hB hn hy q1 q2 q3 q4 q5 q6 q7 b0 b1
  by_cases h1 : n.num = 0
  · obtain rfl : true = q := (bad_num h0 h1).symm.trans hq
    have e1 := eq_t h1
    clear hq h0 h1 hop
    go_enter Tryz.func84, Tryz.ntmps84
    go_wp2
    go_ret
    exact ⟨rfl, HB0.out _⟩
  have e1 := eq_f h1
  by_cases h2 : y.op = 11
  · obtain rfl : true = q := (bad_add h0 (hop.trans h2)).symm.trans hq
    have e2 := eq_t h2
    clear hq h0 h1 hop h2
    go_enter Tryz.func84, Tryz.ntmps84
    go_wp2
    go_ret
    exact ⟨rfl, HB0.out _⟩
  have e2 := eq_f h2
  by_cases h3 : y.op = 10
  · obtain rfl : true = q := (bad_lit h0 (hop.trans h3)).symm.trans hq
    have e3 := eq_t h3
    clear hq h0 h1 hop h2 h3
    go_enter Tryz.func84, Tryz.ntmps84
    go_wp2
    go_ret
    exact ⟨rfl, HB0.out _⟩
  have e3 := eq_f h3
  obtain rfl : false = q := (bad_not h1 (by rw [hop]; exact h2) (by rw [hop]; exact h3)).symm.trans hq
  clear hq h0 h1 hop h2 h3
  go_enter Tryz.func84, Tryz.ntmps84
  go_wp2
  go_ret
  exact ⟨rfl, HB0.out _⟩
theorem any_take {l : List NodeA} {f : NodeA → Bool} {k : Nat} {n : NodeA} (hn : l[k]? = some n) : (l.take (k + 1)).any f = ((l.take k).any f || f n) := by
  rw [take_snoc hn, List.any_append]; simp
theorem any_mem {l : List NodeA} {f : NodeA → Bool} {k : Nat} {n : NodeA} (hn : l[k]? = some n) (h : f n = true) : l.any f = true :=
  List.any_eq_true.2 ⟨n, List.mem_of_getElem? hn, h⟩
theorem Index_any (l : List NodeA) (a : Option Addr) (c B : Nat) (w : World) (hA : TabR w l a c) (hok : okFrom [] l = true) (hl : l.length ≤ 3000) (hB : w.heap[B]? = some (.cells #[.slice a l.length c] 33 (0, 0))) :
    Calls Tryz.prog 85 #[.slice a l.length c, .func (.func 84) #[] #[.pointer (some ⟨B, 0, none⟩)]] w fun e w' => (∃ i : Int, e = .returned (.int .i64 i) ∧ ((l.any (badN l) = true ∧ 0 ≤ i) ∨ (l.any (badN l) = false ∧ i = -1))) ∧ Below w.heap.size w w' := by
  obtain ⟨q, hq⟩ : ∃ q, l.any (badN l) = q := ⟨_, rfl⟩
  rw [hq]
  have HQ := Lib.hid hq
  have HC : Hid (∀ (V : World) (k : Nat) (n : NodeA), Below w.heap.size w V → l[k]? = some n → Calls Tryz.prog 84 #[.agg #[.int .i8 n.op, .int .i8 n.len, .int .i64 n.a0, .int .i64 n.a1, .int .i64 n.a2, .int .i64 n.sort, .int .i64 n.fn, .int .i64 n.num], .pointer (some ⟨B, 0, none⟩)] V fun e w' => e = .returned (.bool (badN l n)) ∧ Below V.heap.size V w') := fun V k n hV hn => clo_any l a c k B n V (hA.below hV) hok hl ((hV.block _ (Array.getElem?_eq_some_iff.1 hB).1).trans hB) hn
  have HA := Lib.hid hA
  have hcap := hA.le
  have hmx : l.length ≤ 9223372036854775807 := by omega
  clear hA hB hq
  go_enter Tryz.func85, Tryz.ntmps85
  go_wp2
  go_loopw [8] (fun i wr => ∃ k : Nat, k ≤ l.length ∧ i = .int .i64 k ∧ Hid (Below w.heap.size w wr) ∧ Hid ((l.take k).any (badN l) = false)) (fun i _ => l.length - (intOf i).toNat)
  case atStart => exact ⟨0, Nat.zero_le _, rfl, Below.refl _ _, by show _ = _; rw [List.take_zero]; rfl⟩
  case round =>
    obtain ⟨k, hkl, rfl, HW, HE⟩ := hrel
    by_cases hlt : k < l.length
    · obtain ⟨n, hn⟩ : ∃ n, l[k]? = some n := ⟨_, List.getElem?_eq_getElem hlt⟩
      obtain ⟨g, o, rfl, hg, q0, q1, q2, q3, q4, q5, q6, q7⟩ := (HA.out.below HW.out).node hn
      have HN := Lib.hid hn
      obtain ⟨t, ht⟩ : ∃ t, badN l n = t := ⟨_, rfl⟩
      have HCn : Hid (Calls Tryz.prog 84 #[.agg #[.int .i8 n.op, .int .i8 n.len, .int .i64 n.a0, .int .i64 n.a1, .int .i64 n.a2, .int .i64 n.sort, .int .i64 n.fn, .int .i64 n.num], .pointer (some ⟨B, 0, none⟩)] wr fun e w' => e = .returned (.bool t) ∧ Below wr.heap.size wr w') := by show Calls _ _ _ _ _; rw [← ht]; exact HC.out wr k n HW.out hn
      have HT := Lib.hid ht
      clear hn ht
      cases t with
      | true =>
        go_wp2_with (go_at_call 84; refine HCn.out.mono ?_; rintro e w1 ⟨rfl, hb1⟩)
        go_ret
        exact ⟨⟨_, rfl, .inl ⟨HQ.out.symm.trans (any_mem HN.out HT.out), by omega⟩⟩, HW.out.trans (hb1.mono HW.out.size)⟩
      | false =>
        go_wp2_with (go_at_call 84; refine HCn.out.mono ?_; rintro e w1 ⟨rfl, hb1⟩)
        go_roundw
        case rel => exact ⟨k + 1, by omega, by go_num, HW.out.trans (hb1.mono HW.out.size), by show _ = _; rw [any_take HN.out, HE.out, HT.out]; rfl⟩
        case measure => simp [intOf]; omega
    · obtain rfl : k = l.length := by omega
      go_wp2
      go_ret
      exact ⟨⟨_, rfl, .inr ⟨by rw [← HQ.out]; have := HE.out; rwa [List.take_length] at this, rfl⟩⟩, HW.out⟩
theorem Contains_any (l : List NodeA) (a : Option Addr) (c B : Nat) (q : Bool) (w : World) (hA : TabR w l a c) (hok : okFrom [] l = true) (hl : l.length ≤ 3000) (hB : w.heap[B]? = some (.cells #[.slice a l.length c] 33 (0, 0))) (hq : l.any (badN l) = q) :
    Calls Tryz.prog 54 #[.slice a l.length c, .func (.func 84) #[] #[.pointer (some ⟨B, 0, none⟩)]] w fun e w' => e = .returned (.bool q) ∧ Below w.heap.size w w' := by
  have HI : Hid (Calls Tryz.prog 85 #[.slice a l.length c, .func (.func 84) #[] #[.pointer (some ⟨B, 0, none⟩)]] w fun e w' => (∃ i : Int, e = .returned (.int .i64 i) ∧ decide (0 ≤ i) = q) ∧ Below w.heap.size w w') := by
    refine (Index_any l a c B w hA hok hl hB).mono ?_
    rintro e w' ⟨⟨i, he, h⟩, hb⟩
    rw [hq] at h
    refine ⟨⟨i, he, ?_⟩, hb⟩
    rcases h with ⟨rfl, h⟩ | ⟨rfl, rfl⟩
    · exact decide_eq_true h
    · rfl
  clear hA hB hq
  go_enter Tryz.func54, Tryz.ntmps54
  go_wp2_with (go_at_call 85; refine HI.out.mono ?_; rintro e w1 ⟨⟨i, rfl, hi⟩, hb1⟩; have HH := Lib.hid hi; clear hi)
  go_ret
  exact ⟨ret_bool HH.out, hb1⟩
theorem Ordered_any (l : List NodeA) (a : Option Addr) (c : Nat) (q : Bool) (w : World) (hG : GT w) (hA : TabR w l a c) (hl : l.length ≤ 3000) (hq : ordB l = q) :
    Calls Tryz.prog 53 #[.agg #[.slice a l.length c]] w fun e w' => e = .returned (.bool q) ∧ Below w.heap.size w w' := by
  obtain ⟨W0, hW0⟩ : ∃ W0, W0 = w.alloc (.cells #[.slice a l.length c] 33) := ⟨_, rfl⟩
  have HB0 : Hid (Below w.heap.size w W0) := by show Below _ _ _; rw [hW0]; exact (Below.refl _ w).alloc (Nat.le_refl _) _
  have HXR : Hid (∀ V, Below W0.heap.size W0 V → V.heap[w.heap.size]? = some (.cells #[.slice a l.length c] 33 (0, 0))) := fun V hV => by
    have hx0 : W0.heap[w.heap.size]? = some (.cells #[.slice a l.length c] 33 (0, 0)) := by rw [hW0]; exact heap_alloc_new w _
    exact (hV.block _ (Array.getElem?_eq_some_iff.1 hx0).1).trans hx0
  cases hm : mayT l with
  | false =>
    obtain rfl : false = q := by rw [← hq]; unfold ordB; rw [hm]; rfl
    have HC : Hid (Calls Tryz.prog 33 #[.agg #[.slice a l.length c]] W0 fun e w' => e = .returned (.int .i64 2) ∧ Below W0.heap.size W0 w') := Check_any l a c 2 W0 (hG.below HB0.out) (hA.below HB0.out) hl (by rw [hm]; rfl)
    clear hA hG hm hq
    go_enter Tryz.func53, Tryz.ntmps53
    go_wp2_with (go_at_call 33; rw [← hW0]; clear hW0; refine HC.out.mono ?_; rintro e w1 ⟨rfl, hb1⟩)
    go_ret
    exact ⟨rfl, HB0.out.trans (hb1.mono HB0.out.size)⟩
  | true =>
    have HC : Hid (Calls Tryz.prog 33 #[.agg #[.slice a l.length c]] W0 fun e w' => e = .returned (.int .i64 0) ∧ Below W0.heap.size W0 w') := Check_any l a c 0 W0 (hG.below HB0.out) (hA.below HB0.out) hl (by rw [hm]; rfl)
    have HF : Hid (∀ V, Below W0.heap.size W0 V → Calls Tryz.prog 54 #[.slice a l.length c, .func (.func 84) #[] #[.pointer (some ⟨w.heap.size, 0, none⟩)]] V fun e w' => e = .returned (.bool (!q)) ∧ Below V.heap.size V w') := fun V hV => Contains_any l a c w.heap.size (!q) V (hA.below (HB0.out.trans (hV.mono HB0.out.size))) (mayT_ok hm).2 hl (HXR.out V hV) (by rw [← hq]; unfold ordB; rw [hm, Bool.true_and, Bool.not_not])
    clear hA hG hm hq
    cases q
    all_goals
      go_enter Tryz.func53, Tryz.ntmps53
      go_wp2_with (first | (go_at_call 33; rw [← hW0]; clear hW0; refine HC.out.mono ?_; rintro e w1 ⟨rfl, hb1⟩; have HB1 := Lib.hid hb1; obtain ⟨x0, _, xz⟩ := box3' (HXR.out _ hb1); clear hb1) | (go_at_call 54; refine (HF.out _ HB1.out).mono ?_; rintro e w2 ⟨rfl, hb2⟩))
      go_ret
      exact ⟨rfl, HB0.out.trans ((HB1.out.trans (hb2.mono HB1.out.size)).mono HB0.out.size)⟩
end Go.Proofs.YtfbjgadgfjnamaaGreatDoor.Tm
namespace Go.Proofs.YtfbjgadgfjnamaaGreatDoor.Tm
open Go.RowKit
set_option linter.unusedVariables false
set_option maxRecDepth 100000 in
set_option maxHeartbeats 4000000 in
theorem ROrdered_any (l : List NodeA) (a : Option Addr) (c : Nat) (q : Bool) (w : World) (hA : TabR w l a c) (hl : l.length ≤ 3000) (hq : ordB l = q) :
    Calls Tryz.prog 41 #[.agg #[.slice a l.length c]] w fun e w' => e = .returned (.bool q) ∧ Below w.heap.size w w' := by
  obtain ⟨W0, hW0⟩ : ∃ W0, W0 = w.alloc (.cells #[.slice a l.length c] 33) := ⟨_, rfl⟩
  have HB0 : Hid (Below w.heap.size w W0) := by show Below _ _ _; rw [hW0]; exact (Below.refl _ w).alloc (Nat.le_refl _) _
  have HXR : Hid (∀ V, Below W0.heap.size W0 V → V.heap[w.heap.size]? = some (.cells #[.slice a l.length c] 33 (0, 0))) := fun V hV => by
    have hx0 : W0.heap[w.heap.size]? = some (.cells #[.slice a l.length c] 33 (0, 0)) := by rw [hW0]; exact heap_alloc_new w _
    exact (hV.block _ (Array.getElem?_eq_some_iff.1 hx0).1).trans hx0
  cases hm : mayT l with
  | false =>
    obtain rfl : false = q := by rw [← hq]; unfold ordB; rw [hm]; rfl
    have HC : Hid (Calls Tryz.prog 29 #[.agg #[.slice a l.length c]] W0 fun e w' => e = .returned (.int .i64 2) ∧ Below W0.heap.size W0 w') := RCheck_any l a c 2 W0 (hA.below HB0.out) hl (by rw [hm]; rfl)
    clear hA hm hq
    go_enter Tryz.func41, Tryz.ntmps41
    go_wp2_with (go_at_call 29; rw [← hW0]; clear hW0; refine HC.out.mono ?_; rintro e w1 ⟨rfl, hb1⟩)
    go_ret
    exact ⟨rfl, HB0.out.trans (hb1.mono HB0.out.size)⟩
  | true =>
    have HC : Hid (Calls Tryz.prog 29 #[.agg #[.slice a l.length c]] W0 fun e w' => e = .returned (.int .i64 0) ∧ Below W0.heap.size W0 w') := RCheck_any l a c 0 W0 (hA.below HB0.out) hl (by rw [hm]; rfl)
    have HOK := Lib.hid (mayT_ok hm).2
    have HQ : Hid ((!l.any (badN l)) = q) := by show _ = _; rw [← hq]; unfold ordB; rw [hm, Bool.true_and]
    have HA := Lib.hid hA
    have hcap := hA.le
    have hmx : l.length ≤ 9223372036854775807 := by omega
    clear hA hm hq
    go_enter Tryz.func41, Tryz.ntmps41
    go_wp2_with (go_at_call 29; rw [← hW0]; clear hW0; refine HC.out.mono ?_; rintro e w1 ⟨rfl, hb1⟩; have HB1 := Lib.hid hb1; clear hb1)
    go_loopw [3] (fun i wr => ∃ k : Nat, k ≤ l.length ∧ i = .int .i64 k ∧ Hid (Below W0.heap.size W0 wr) ∧ Hid ((l.take k).any (badN l) = false)) (fun i _ => l.length - (intOf i).toNat)
    case atStart => exact ⟨0, Nat.zero_le _, rfl, HB1, by show _ = _; rw [List.take_zero]; rfl⟩
    case round =>
      obtain ⟨k, hkl, rfl, HW, HE⟩ := hrel
      obtain ⟨x0, _, xz⟩ := box3' (HXR.out _ HW.out)
      have HWw : Hid (Below w.heap.size w wr) := HB0.out.trans (HW.out.mono HB0.out.size)
      by_cases hlt : k < l.length
      · obtain ⟨n, hn⟩ : ∃ n, l[k]? = some n := ⟨_, List.getElem?_eq_getElem hlt⟩
        obtain ⟨g, o, rfl, hg, q0, q1, q2, q3, q4, q5, q6, q7⟩ := (HA.out.below HWw.out).node hn
        have hki : (k : Int) < (l.length : Int) := by omega
        have hk0 : (0 : Int) ≤ (k : Int) := by omega
        by_cases h0 : n.op = 11
        rotate_left
        · have HNX : Hid ((l.take (k + 1)).any (badN l) = false) := by show _ = _; rw [any_take hn, HE.out, bad_no h0]; rfl
          have e0 := ne_t h0
          clear h0 hn
          go_wp2
          go_roundw
          case rel => exact ⟨k + 1, by omega, by go_num, HW, HNX⟩
          case measure => simp [intOf]; omega
        obtain ⟨b0, b1, -⟩ := stands_add (ok_at HOK.out hn).1 h0
        obtain ⟨m, hm⟩ : ∃ m : Nat, n.a0 = (m : Int) := ⟨n.a0.toNat, by omega⟩
        obtain ⟨y, hy⟩ : ∃ y, l[m]? = some y := ⟨_, List.getElem?_eq_getElem (by omega)⟩
        have hop : opAt l n = y.op := by unfold opAt; rw [hm, Int.toNat_natCast, List.getD_eq_getElem?_getD, hy]; rfl
        obtain ⟨g', o', he, hg', r0, r1, r2, r3, r4, r5, r6, r7⟩ := (HA.out.below HWw.out).node hy
        cases he
        have hmi : (m : Int) < (l.length : Int) := by omega
        have hm0 : (0 : Int) ≤ (m : Int) := by omega
        have e0 := ne_f h0
        have HN := Lib.hid hn
        rw [hm] at q2
        clear hn hy r1 r2 r3 r4 r5 r6 r7 b0 b1 hm q1 q3 q4 q5 q6
        have HBad : Hid (badN l n = true → q = false) := fun h => by rw [← HQ.out, any_mem HN.out h]; rfl
        by_cases h1 : n.num = 0
        · obtain rfl : q = false := HBad.out (bad_num h0 h1)
          have e1 := eq_t h1
          clear h0 h1 hop
          go_wp2
          go_quiet (fail)
          go_wp2
          go_ret
          exact ⟨rfl, below_drewN HWw.out⟩
        have e1 := eq_f h1
        by_cases h2 : y.op = 11
        · obtain rfl : q = false := HBad.out (bad_add h0 (hop.trans h2))
          have e2 := eq_t h2
          clear h0 h1 hop h2
          go_wp2
          go_quiet (fail)
          go_wp2
          go_ret
          exact ⟨rfl, below_drewN HWw.out⟩
        have e2 := eq_f h2
        by_cases h3 : y.op = 10
        · obtain rfl : q = false := HBad.out (bad_lit h0 (hop.trans h3))
          have e3 := eq_t h3
          clear h0 h1 hop h2 h3
          go_wp2
          go_quiet (fail)
          go_wp2
          go_ret
          exact ⟨rfl, below_drewN HWw.out⟩
        have e3 := eq_f h3
        have HNX : Hid ((l.take (k + 1)).any (badN l) = false) := by show _ = _; rw [any_take HN.out, HE.out, bad_not h1 (by rw [hop]; exact h2) (by rw [hop]; exact h3)]; rfl
        clear h0 h1 hop h2 h3
        go_wp2
        go_quiet (fail)
        go_wp2
        go_roundw
        case rel => exact ⟨k + 1, by omega, by go_num, below_drewN HW.out, HNX⟩
        case measure => simp [intOf]; omega
      · obtain rfl : k = l.length := by omega
        obtain rfl : q = true := by have h := HE.out; rw [List.take_length] at h; rw [← HQ.out, h]; rfl
        go_wp2
        go_ret
        exact ⟨rfl, HWw.out⟩
end Go.Proofs.YtfbjgadgfjnamaaGreatDoor.Tm
