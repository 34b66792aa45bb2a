/- OffsetOnce and OffsetTurns, walked. -/
import Derived.Test.YtgjidlfemfomcaaDoorOfL
namespace Go.Proofs.YtgjidlfemfomcaaDoor
open Go.RowKit
set_option linter.unusedVariables false
/-- A table's box, as a call makes it first of all. -/
structure Tab0 (w W0 : World) (l : List NodeA) (a : Option Addr) (c : Nat) : Prop where
  below : Below w.heap.size w W0
  box : W0.heap[w.heap.size]? = some (.cells #[.slice a l.length c] 24 (0, 0))
theorem tab0 (w : World) (l : List NodeA) (a : Option Addr) (c : Nat) : Tab0 w (w.alloc (.cells #[.slice a l.length c] 24)) l a c := ⟨(Below.refl _ w).alloc (Nat.le_refl _) _, heap_alloc_new w _⟩
theorem Tab0.at {w W0 V : World} {l : List NodeA} {a : Option Addr} {c : Nat} (h : Tab0 w W0 l a c) (hV : Below W0.heap.size W0 V) : V.cell? ⟨w.heap.size, 0, none⟩ = some (.slice a l.length c) ∧ w.heap.size < V.heap.size := by
  have e0 := (hV.block _ (Array.getElem?_eq_some_iff.1 h.box).1).trans h.box
  exact ⟨(cell_of_row _ _ 0 _ _ _ e0).trans rfl, (Array.getElem?_eq_some_iff.1 e0).1⟩
theorem Tab0.to {w W0 V : World} {l : List NodeA} {a : Option Addr} {c : Nat} (h : Tab0 w W0 l a c) (hV : Below W0.heap.size W0 V) : Below w.heap.size w V := h.below.trans (hV.mono h.below.size)
set_option maxRecDepth 100000 in
set_option maxHeartbeats 4000000 in
theorem OffsetTurns_c (w : World) (l : List NodeA) (ad : Option Addr) (cp : Nat) (hA : TabR w l ad cp) (a : Int) (ha : I64 a) (b : Int) (hb : I64 b) (c : Int) (hc : I64 c) (hG : GT w) :
    Calls Tryd.prog 5 #[.agg #[.slice ad l.length cp], .int .i64 a, .int .i64 b, .int .i64 c] w fun e w' => e = .returned (.bool true) ∧ Below w.heap.size w w' := by
  have hlm : l.length ≤ 9223372036854775807 := by have h1 := hA.le; have h2 := hA.cap; simp only [maxLen] at h2; omega
  obtain ⟨W0, hW0⟩ : ∃ W0, W0 = w.alloc (.cells #[.slice ad l.length cp] 24) := ⟨_, rfl⟩
  have HT0 : Hid (Tab0 w W0 l ad cp) := by show Tab0 _ _ _ _ _; rw [hW0]; exact tab0 w l ad cp
  have HWk : Hid (∀ V, Below W0.heap.size W0 V → Calls Tryd.prog 8 #[] V fun e w' => e = .returned (.bool true) ∧ Below W0.heap.size W0 w') := fun V hV => (wakes_any V (hG.below (HT0.out.to hV))).mono fun e w' ⟨h1, h2⟩ => ⟨h1, hV.trans (h2.mono hV.size)⟩
  cases hgr : decide (300 < l.length) with
  | true =>
    have HGr : Hid (Calls Tryd.prog 6 #[.agg #[.slice ad l.length cp]] W0 fun e w' => e = .returned (.bool true) ∧ Below W0.heap.size W0 w') := Great_any l ad cp true W0 hlm hgr
    clear hgr hA hG
    go_enter Tryd.func5, Tryd.ntmps5
    go_wp2_with (first | (go_at_call 6; rw [← hW0]; clear hW0; refine HGr.out.mono ?_; rintro e w1 ⟨rfl, hb1⟩; have HB1 := Lib.hid hb1; clear hb1) | (go_at_call 8; refine (HWk.out _ HB1.out).mono ?_; rintro e w2 ⟨rfl, hb2⟩))
    go_ret
    exact ⟨rfl, HT0.out.to hb2⟩
  | false =>
  have hl3 : l.length ≤ 300 := by have := of_decide_eq_false hgr; omega
  have HGr : Hid (Calls Tryd.prog 6 #[.agg #[.slice ad l.length cp]] W0 fun e w' => e = .returned (.bool false) ∧ Below W0.heap.size W0 w') := Great_any l ad cp false W0 hlm hgr
  obtain ⟨d, hd⟩ : ∃ d, diffP l a b c = d := ⟨_, rfl⟩
  have HD1 : Hid (∀ V, Below W0.heap.size W0 V → Calls Tryd.prog 15 #[.agg #[.slice ad l.length cp], .int .i64 a, .int .i64 b, .int .i64 c] V fun e w' => e = .returned (.tuple #[.int .i64 d.1, .int .i64 d.2.1, .int .i64 d.2.2.1, .int .i64 d.2.2.2]) ∧ Below W0.heap.size W0 w') := fun V hV => (Diff_any l ad cp a b c d V (hG.below (HT0.out.to hV)) (hA.below (HT0.out.to hV)) (by omega) ha hb hc hd).mono fun e w' ⟨h1, h2⟩ => ⟨h1, hV.trans (h2.mono hV.size)⟩
  have HD2 : Hid (∀ V c2, Below W0.heap.size W0 V → I64 c2 → Calls Tryd.prog 15 #[.agg #[.slice ad l.length cp], .int .i64 b, .int .i64 a, .int .i64 c2] V fun e w' => e = .returned (.tuple #[.int .i64 (diffP l b a c2).1, .int .i64 (diffP l b a c2).2.1, .int .i64 (diffP l b a c2).2.2.1, .int .i64 (diffP l b a c2).2.2.2]) ∧ Below W0.heap.size W0 w') := fun V c2 hV hc2 => (Diff_any l ad cp b a c2 _ V (hG.below (HT0.out.to hV)) (hA.below (HT0.out.to hV)) (by omega) hb ha hc2 rfl).mono fun e w' ⟨h1, h2⟩ => ⟨h1, hV.trans (h2.mono hV.size)⟩
  have HIW : Hid (∀ x : Int, I64 (wrap64 x)) := fun x => i64_wrap x
  by_cases he : d.2.2.2 = 0
  rotate_left
  · have e0 := ne_t he
    obtain ⟨d0, d1, d2, d3⟩ := d
    simp only at HD1 e0
    clear hgr hA hG he hd
    go_enter Tryd.func5, Tryd.ntmps5
    go_wp2_with (first | (go_at_call 15; refine (HD2.out _ _ HB2.out (HIW.out _)).mono ?_; rintro e w3 ⟨rfl, hb3⟩; have HB3 := Lib.hid hb3; clear hb3) | (go_at_call 6; rw [← hW0]; clear hW0; refine HGr.out.mono ?_; rintro e w1 ⟨rfl, hb1⟩; have HB1 := Lib.hid hb1; obtain ⟨x0, xz⟩ := HT0.out.at hb1; clear hb1) | (go_at_call 15; refine (HD1.out _ HB1.out).mono ?_; rintro e w2 ⟨rfl, hb2⟩; have HB2 := Lib.hid hb2; clear x0 xz; obtain ⟨x0, xz⟩ := HT0.out.at hb2; clear hb2) | (go_at_call 8; refine (HWk.out _ HB3.out).mono ?_; rintro e w4 ⟨rfl, hb4⟩))
    go_ret
    exact ⟨rfl, HT0.out.to hb4⟩
  have hok := diff_ok (by rw [hd]; exact he)
  obtain ⟨c1, c2⟩ := hok.mc
  have HD3 : Hid (∀ V, Below W0.heap.size W0 V → Calls Tryd.prog 15 #[.agg #[.slice ad l.length cp], .int .i64 b, .int .i64 a, .int .i64 (-c - 1)] V fun e w' => e = .returned (.tuple #[.int .i64 (diffP l b a (-c - 1)).1, .int .i64 (diffP l b a (-c - 1)).2.1, .int .i64 (diffP l b a (-c - 1)).2.2.1, .int .i64 (diffP l b a (-c - 1)).2.2.2]) ∧ Below W0.heap.size W0 w') := fun V hV => HD2.out V (-c - 1) hV (i64_of (by omega))
  have HTu : Hid ((diffP l b a (-c - 1)).2.2.2 = 0 → d.1 = (diffP l b a (-c - 1)).2.1 ∧ d.2.1 = (diffP l b a (-c - 1)).1 ∧ d.2.2.1 + (diffP l b a (-c - 1)).2.2.1 = -1 ∧ (-4611686018427387904 ≤ d.2.2.1 ∧ d.2.2.1 ≤ 4611686018427387904) ∧ (-4611686018427387904 ≤ (diffP l b a (-c - 1)).2.2.1 ∧ (diffP l b a (-c - 1)).2.2.1 ≤ 4611686018427387904)) := fun h => by
    have := turns_ok (l := l) (a := a) (b := b) (c := c) (by rw [hd]; exact he) h
    rw [hd] at this
    exact this
  generalize diffP l b a (-c - 1) = f at HD3 HTu
  clear hok hgr hA hG HD2 HIW hd
  by_cases hf : f.2.2.2 = 0
  rotate_left
  · have e1 := ne_t hf
    obtain ⟨d0, d1, d2, d3⟩ := d
    obtain rfl : d3 = 0 := he
    obtain ⟨f0, f1, f2, f3⟩ := f
    simp only at HD1 HD3 e1
    clear hf HTu
    go_enter Tryd.func5, Tryd.ntmps5
    go_wp2_with (first | (go_at_call 15; refine (HD3.out _ HB2.out).mono ?_; rintro e w3 ⟨rfl, hb3⟩; have HB3 := Lib.hid hb3; clear hb3) | (go_at_call 6; rw [← hW0]; clear hW0; refine HGr.out.mono ?_; rintro e w1 ⟨rfl, hb1⟩; have HB1 := Lib.hid hb1; obtain ⟨x0, xz⟩ := HT0.out.at hb1; clear hb1) | (go_at_call 15; refine (HD1.out _ HB1.out).mono ?_; rintro e w2 ⟨rfl, hb2⟩; have HB2 := Lib.hid hb2; clear x0 xz; obtain ⟨x0, xz⟩ := HT0.out.at hb2; clear hb2) | (go_at_call 8; refine (HWk.out _ HB3.out).mono ?_; rintro e w4 ⟨rfl, hb4⟩))
    go_ret
    exact ⟨rfl, HT0.out.to hb4⟩
  obtain ⟨t1, t2, t3, t4, t5⟩ := HTu.out hf
  obtain ⟨d0, d1, d2, d3⟩ := d
  obtain rfl : d3 = 0 := he
  obtain ⟨f0, f1, f2, f3⟩ := f
  obtain rfl : f3 = 0 := hf
  simp only at HD1 HD3 t1 t2 t3 t4 t5
  subst t1 t2
  have e2 := eq_t (rfl : d0 = d0)
  have e3 := eq_t (rfl : d1 = d1)
  have e4 : (d2 + f2 == -1) = true := eq_t t3
  have e5 : wrap64 (d2 + f2) = d2 + f2 := by unfold wrap64; omega
  have e6 : (wrap64 (d2 + f2) == -1) = true := by rw [e5]; exact e4
  clear e5 t3 t4 t5 HTu
  go_enter Tryd.func5, Tryd.ntmps5
  go_wp2_with (first | (go_at_call 15; refine (HD3.out _ HB2.out).mono ?_; rintro e w3 ⟨rfl, hb3⟩; have HB3 := Lib.hid hb3; clear hb3) | (go_at_call 6; rw [← hW0]; clear hW0; refine HGr.out.mono ?_; rintro e w1 ⟨rfl, hb1⟩; have HB1 := Lib.hid hb1; obtain ⟨x0, xz⟩ := HT0.out.at hb1; clear hb1) | (go_at_call 15; refine (HD1.out _ HB1.out).mono ?_; rintro e w2 ⟨rfl, hb2⟩; have HB2 := Lib.hid hb2; clear x0 xz; obtain ⟨x0, xz⟩ := HT0.out.at hb2; clear hb2) | (go_at_call 8; refine (HWk.out _ HB3.out).mono ?_; rintro e w4 ⟨rfl, hb4⟩))
  go_ret
  exact ⟨rfl, HT0.out.to hb4⟩
set_option maxRecDepth 100000 in
set_option maxHeartbeats 4000000 in
theorem OffsetOnce_c (w : World) (l : List NodeA) (ad : Option Addr) (cp : Nat) (hA : TabR w l ad cp) (a : Int) (ha : I64 a) (b : Int) (hb : I64 b) (hG : GT w) :
    Calls Tryd.prog 4 #[.agg #[.slice ad l.length cp], .int .i64 a, .int .i64 b] w fun e w' => e = .returned (.bool true) ∧ Below w.heap.size w w' := by
  have hlm : l.length ≤ 9223372036854775807 := by have h1 := hA.le; have h2 := hA.cap; simp only [maxLen] at h2; omega
  obtain ⟨W0, hW0⟩ : ∃ W0, W0 = w.alloc (.cells #[.slice ad l.length cp] 24) := ⟨_, rfl⟩
  have HT0 : Hid (Tab0 w W0 l ad cp) := by show Tab0 _ _ _ _ _; rw [hW0]; exact tab0 w l ad cp
  have HWk : Hid (∀ V, Below W0.heap.size W0 V → Calls Tryd.prog 8 #[] V fun e w' => e = .returned (.bool true) ∧ Below W0.heap.size W0 w') := fun V hV => (wakes_any V (hG.below (HT0.out.to hV))).mono fun e w' ⟨h1, h2⟩ => ⟨h1, hV.trans (h2.mono hV.size)⟩
  cases hgr : decide (300 < l.length) with
  | true =>
    have HGr : Hid (Calls Tryd.prog 6 #[.agg #[.slice ad l.length cp]] W0 fun e w' => e = .returned (.bool true) ∧ Below W0.heap.size W0 w') := Great_any l ad cp true W0 hlm hgr
    clear hgr hA hG
    go_enter Tryd.func4, Tryd.ntmps4
    go_wp2_with (first | (go_at_call 6; rw [← hW0]; clear hW0; refine HGr.out.mono ?_; rintro e w1 ⟨rfl, hb1⟩; have HB1 := Lib.hid hb1; clear hb1) | (go_at_call 8; refine (HWk.out _ HB1.out).mono ?_; rintro e w2 ⟨rfl, hb2⟩))
    go_ret
    exact ⟨rfl, HT0.out.to hb2⟩
  | false =>
  have hl3 : l.length ≤ 300 := by have := of_decide_eq_false hgr; omega
  have HGr : Hid (Calls Tryd.prog 6 #[.agg #[.slice ad l.length cp]] W0 fun e w' => e = .returned (.bool false) ∧ Below W0.heap.size W0 w') := Great_any l ad cp false W0 hlm hgr
  have HOr : Hid (∀ V, Below W0.heap.size W0 V → Calls Tryd.prog 7 #[.agg #[.slice ad l.length cp]] V fun e w' => e = .returned (.bool (ordB l)) ∧ Below W0.heap.size W0 w') := fun V hV => (ROrdered_any l ad cp _ V (hA.below (HT0.out.to hV)) (by omega) rfl).mono fun e w' ⟨h1, h2⟩ => ⟨h1, hV.trans (h2.mono hV.size)⟩
  cases ho : ordB l with
  | false =>
    rw [ho] at HOr
    clear hgr hA hG ho
    go_enter Tryd.func4, Tryd.ntmps4
    go_wp2_with (first | (go_at_call 6; rw [← hW0]; clear hW0; refine HGr.out.mono ?_; rintro e w1 ⟨rfl, hb1⟩; have HB1 := Lib.hid hb1; obtain ⟨x0, xz⟩ := HT0.out.at hb1; clear hb1) | (go_at_call 7; refine (HOr.out _ HB1.out).mono ?_; rintro e w2 ⟨rfl, hb2⟩; have HB2 := Lib.hid hb2; clear hb2) | (go_at_call 8; refine (HWk.out _ HB2.out).mono ?_; rintro e w3 ⟨rfl, hb3⟩))
    go_ret
    exact ⟨rfl, HT0.out.to hb3⟩
  | true =>
  rw [ho] at HOr
  have hm := ord_may ho
  have HO1 : Hid (∀ V, Below W0.heap.size W0 V → Calls Tryd.prog 10 #[.agg #[.slice ad l.length cp], .int .i64 a] V fun e w' => e = .returned (.tuple #[.int .i64 (ofP l a).1, .int .i64 (ofP l a).2.1, .int .i64 (ofP l a).2.2]) ∧ Below W0.heap.size W0 w') := fun V hV => (Of_any l ad cp a _ V (hG.below (HT0.out.to hV)) (hA.below (HT0.out.to hV)) (by omega) ha (OfP_eq hm)).mono fun e w' ⟨h1, h2⟩ => ⟨h1, hV.trans (h2.mono hV.size)⟩
  have HO2 : Hid (∀ V, Below W0.heap.size W0 V → Calls Tryd.prog 10 #[.agg #[.slice ad l.length cp], .int .i64 b] V fun e w' => e = .returned (.tuple #[.int .i64 (ofP l b).1, .int .i64 (ofP l b).2.1, .int .i64 (ofP l b).2.2]) ∧ Below W0.heap.size W0 w') := fun V hV => (Of_any l ad cp b _ V (hG.below (HT0.out.to hV)) (hA.below (HT0.out.to hV)) (by omega) hb (OfP_eq hm)).mono fun e w' ⟨h1, h2⟩ => ⟨h1, hV.trans (h2.mono hV.size)⟩
  have HOn : Hid ((ofP l a).2.2 = 0 → (ofP l b).2.2 = 0 → (ofP l a).1 = (ofP l b).1 → (ofP l a).2.1 = (ofP l b).2.1 → a = b) := fun h1 h2 h3 h4 => once_ok ho h1 h2 h3 h4
  have HSa : Hid (a = b → ofP l a = ofP l b) := fun h => by rw [h]
  generalize ofP l a = p at HO1 HOn HSa
  generalize ofP l b = q at HO2 HOn HSa
  obtain ⟨p0, p1, p2⟩ := p
  obtain ⟨q0, q1, q2⟩ := q
  simp only at HO1 HO2 HOn
  clear hgr hA hG ho hm
  by_cases hp : p2 = 0
  rotate_left
  · have e0 := ne_t hp
    clear hp HOn HSa
    go_enter Tryd.func4, Tryd.ntmps4
    go_wp2_with (first | (go_at_call 10; refine (HO2.out _ HB3.out).mono ?_; rintro e w4 ⟨rfl, hb4⟩; have HB4 := Lib.hid hb4; clear hb4) | (go_at_call 6; rw [← hW0]; clear hW0; refine HGr.out.mono ?_; rintro e w1 ⟨rfl, hb1⟩; have HB1 := Lib.hid hb1; obtain ⟨x0, xz⟩ := HT0.out.at hb1; clear hb1) | (go_at_call 7; refine (HOr.out _ HB1.out).mono ?_; rintro e w2 ⟨rfl, hb2⟩; have HB2 := Lib.hid hb2; clear x0 xz; obtain ⟨x0, xz⟩ := HT0.out.at hb2; clear hb2) | (go_at_call 10; refine (HO1.out _ HB2.out).mono ?_; rintro e w3 ⟨rfl, hb3⟩; have HB3 := Lib.hid hb3; clear x0 xz; obtain ⟨x0, xz⟩ := HT0.out.at hb3; clear hb3) | (go_at_call 8; refine (HWk.out _ HB4.out).mono ?_; rintro e w5 ⟨rfl, hb5⟩))
    go_ret
    exact ⟨rfl, HT0.out.to hb5⟩
  by_cases hq : q2 = 0
  rotate_left
  · have e0 := ne_f hp
    have e1 := ne_t hq
    clear hq hp HOn HSa
    go_enter Tryd.func4, Tryd.ntmps4
    go_wp2_with (first | (go_at_call 10; refine (HO2.out _ HB3.out).mono ?_; rintro e w4 ⟨rfl, hb4⟩; have HB4 := Lib.hid hb4; clear hb4) | (go_at_call 6; rw [← hW0]; clear hW0; refine HGr.out.mono ?_; rintro e w1 ⟨rfl, hb1⟩; have HB1 := Lib.hid hb1; obtain ⟨x0, xz⟩ := HT0.out.at hb1; clear hb1) | (go_at_call 7; refine (HOr.out _ HB1.out).mono ?_; rintro e w2 ⟨rfl, hb2⟩; have HB2 := Lib.hid hb2; clear x0 xz; obtain ⟨x0, xz⟩ := HT0.out.at hb2; clear hb2) | (go_at_call 10; refine (HO1.out _ HB2.out).mono ?_; rintro e w3 ⟨rfl, hb3⟩; have HB3 := Lib.hid hb3; clear x0 xz; obtain ⟨x0, xz⟩ := HT0.out.at hb3; clear hb3) | (go_at_call 8; refine (HWk.out _ HB4.out).mono ?_; rintro e w5 ⟨rfl, hb5⟩))
    go_ret
    exact ⟨rfl, HT0.out.to hb5⟩
  subst hp hq
  by_cases hab : a = b
  · have hs := HSa.out hab
    simp only [Prod.mk.injEq, and_true] at hs
    obtain ⟨rfl, rfl⟩ := hs
    have e0 := eq_t hab
    have e1 := eq_t (rfl : p0 = p0)
    have e2 := eq_t (rfl : p1 = p1)
    clear hab HOn HSa
    go_enter Tryd.func4, Tryd.ntmps4
    go_wp2_with (first | (go_at_call 10; refine (HO2.out _ HB3.out).mono ?_; rintro e w4 ⟨rfl, hb4⟩; have HB4 := Lib.hid hb4; clear hb4) | (go_at_call 6; rw [← hW0]; clear hW0; refine HGr.out.mono ?_; rintro e w1 ⟨rfl, hb1⟩; have HB1 := Lib.hid hb1; obtain ⟨x0, xz⟩ := HT0.out.at hb1; clear hb1) | (go_at_call 7; refine (HOr.out _ HB1.out).mono ?_; rintro e w2 ⟨rfl, hb2⟩; have HB2 := Lib.hid hb2; clear x0 xz; obtain ⟨x0, xz⟩ := HT0.out.at hb2; clear hb2) | (go_at_call 10; refine (HO1.out _ HB2.out).mono ?_; rintro e w3 ⟨rfl, hb3⟩; have HB3 := Lib.hid hb3; clear x0 xz; obtain ⟨x0, xz⟩ := HT0.out.at hb3; clear hb3) | (go_at_call 8; refine (HWk.out _ HB4.out).mono ?_; rintro e w5 ⟨rfl, hb5⟩))
    go_ret
    exact ⟨rfl, HT0.out.to hb5⟩
  have e0 := eq_f hab
  by_cases h0 : p0 = q0
  · have h1 : ¬ p1 = q1 := fun h1 => hab (HOn.out rfl rfl h0 h1)
    have e1 := eq_t h0
    have e2 := eq_f h1
    clear hab HOn HSa h0 h1
    go_enter Tryd.func4, Tryd.ntmps4
    go_wp2_with (first | (go_at_call 10; refine (HO2.out _ HB3.out).mono ?_; rintro e w4 ⟨rfl, hb4⟩; have HB4 := Lib.hid hb4; clear hb4) | (go_at_call 6; rw [← hW0]; clear hW0; refine HGr.out.mono ?_; rintro e w1 ⟨rfl, hb1⟩; have HB1 := Lib.hid hb1; obtain ⟨x0, xz⟩ := HT0.out.at hb1; clear hb1) | (go_at_call 7; refine (HOr.out _ HB1.out).mono ?_; rintro e w2 ⟨rfl, hb2⟩; have HB2 := Lib.hid hb2; clear x0 xz; obtain ⟨x0, xz⟩ := HT0.out.at hb2; clear hb2) | (go_at_call 10; refine (HO1.out _ HB2.out).mono ?_; rintro e w3 ⟨rfl, hb3⟩; have HB3 := Lib.hid hb3; clear x0 xz; obtain ⟨x0, xz⟩ := HT0.out.at hb3; clear hb3) | (go_at_call 8; refine (HWk.out _ HB4.out).mono ?_; rintro e w5 ⟨rfl, hb5⟩))
    go_ret
    exact ⟨rfl, HT0.out.to hb5⟩
  · have e1 := eq_f h0
    clear hab HOn HSa h0
    go_enter Tryd.func4, Tryd.ntmps4
    go_wp2_with (first | (go_at_call 10; refine (HO2.out _ HB3.out).mono ?_; rintro e w4 ⟨rfl, hb4⟩; have HB4 := Lib.hid hb4; clear hb4) | (go_at_call 6; rw [← hW0]; clear hW0; refine HGr.out.mono ?_; rintro e w1 ⟨rfl, hb1⟩; have HB1 := Lib.hid hb1; obtain ⟨x0, xz⟩ := HT0.out.at hb1; clear hb1) | (go_at_call 7; refine (HOr.out _ HB1.out).mono ?_; rintro e w2 ⟨rfl, hb2⟩; have HB2 := Lib.hid hb2; clear x0 xz; obtain ⟨x0, xz⟩ := HT0.out.at hb2; clear hb2) | (go_at_call 10; refine (HO1.out _ HB2.out).mono ?_; rintro e w3 ⟨rfl, hb3⟩; have HB3 := Lib.hid hb3; clear x0 xz; obtain ⟨x0, xz⟩ := HT0.out.at hb3; clear hb3) | (go_at_call 8; refine (HWk.out _ HB4.out).mono ?_; rintro e w5 ⟨rfl, hb5⟩))
    go_ret
    exact ⟨rfl, HT0.out.to hb5⟩
end Go.Proofs.YtgjidlfemfomcaaDoor
