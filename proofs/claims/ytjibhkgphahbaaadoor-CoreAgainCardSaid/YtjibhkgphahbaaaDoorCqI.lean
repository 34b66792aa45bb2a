/- CoreAgain: its walk. -/
import Derived.Test.YtjibhkgphahbaaaDoorCqH
namespace Go.Proofs.YtjibhkgphahbaaaDoor.Tm
open Go.RowKit
set_option linter.unusedVariables false
set_option maxRecDepth 100000 in
set_option maxHeartbeats 16000000 in
theorem CoreAgain_c (w : World) (l : List NodeA) (a : Option Addr) (c : Nat) (hA : TabR w l a c) (xs : List Int) (b1 : Option Addr) (d1 : Nat) (hX : IntsR w xs b1 d1) (hG : GC w) :
    Calls Tryd.prog 3 #[.agg #[.slice a l.length c], .slice b1 xs.length d1] w fun e w' => e = .returned (.bool true) ∧ Below w.heap.size w w' := by
  have hlm : l.length ≤ 9223372036854775807 := by have h1 := hA.le; have h2 := hA.cap; simp only [maxLen] at h2; omega
  have hx1 := hX.le
  have hx2 : xs.length ≤ 9223372036854775807 := by have h2 := hX.cap; simp only [maxLen] at h2; omega
  have hle := hA.le
  obtain ⟨W0, hW0⟩ : ∃ W0, W0 = w.alloc (.cells #[.slice a l.length c] 24) := ⟨_, rfl⟩
  obtain ⟨hB0, hXX⟩ := tab_box hW0
  have HWk : Hid (∀ V, Below w.heap.size w V → Calls Tryd.prog 6 #[] V fun e w' => e = .returned (.bool true) ∧ Below V.heap.size V w') := fun V hV => wakes_any V (hG.below hV).t (hG.below hV).r
  have HXX := Lib.hid hXX
  have HB0 := Lib.hid hB0
  obtain ⟨x0, xz⟩ := hXX _ (Below.refl _ _)
  cases hgr : decide (300 < l.length) with
  | true =>
    have HGr : Hid (Calls Tryd.prog 5 #[.agg #[.slice a l.length c]] W0 fun e w' => e = .returned (.bool true) ∧ Below W0.heap.size W0 w') := Great_any l a c true W0 hlm hgr
    clear hgr hA hB0 hX hG hXX
    go_enter Tryd.func3, Tryd.ntmps3
    go_wp2_with fail
    rw [← hW0]
    clear hW0
    refine HGr.out.mono ?_
    rintro e w1 ⟨rfl, hb1⟩
    have HB1 : Hid (Below w.heap.size w w1) := HB0.out.trans (hb1.mono HB0.out.size)
    clear hb1
    go_wp2_with fail
    refine (HWk.out _ HB1.out).mono ?_
    rintro e w2 ⟨rfl, hb2⟩
    go_wp2_with fail
    go_ret
    exact ⟨rfl, ball HB1.out hb2⟩
  | false =>
  have HGr : Hid (Calls Tryd.prog 5 #[.agg #[.slice a l.length c]] W0 fun e w' => e = .returned (.bool false) ∧ Below W0.heap.size W0 w') := Great_any l a c false W0 hlm hgr
  have hl3 : l.length ≤ 300 := by have := of_decide_eq_false hgr; omega
  by_cases hfew : 100 < xs.length
  · have d5 : decide (100 < (xs.length : Int)) = true := decide_eq_true (by omega)
    clear hgr hA hB0 hX hG hXX
    go_enter Tryd.func3, Tryd.ntmps3
    go_wp2_with fail
    rw [← hW0]
    clear hW0
    refine HGr.out.mono ?_
    rintro e w1 ⟨rfl, hb1⟩
    have HB1 : Hid (Below w.heap.size w w1) := HB0.out.trans (hb1.mono HB0.out.size)
    clear hb1
    go_wp2_with fail
    refine (HWk.out _ HB1.out).mono ?_
    rintro e w2 ⟨rfl, hb2⟩
    go_wp2_with fail
    go_ret
    exact ⟨rfl, ball HB1.out hb2⟩
  have d5 : decide (100 < (xs.length : Int)) = false := decide_eq_false (by omega)
  have HOf : Hid (∀ V, Below w.heap.size w V → Calls Tryd.prog 7 #[.agg #[.slice a l.length c], .slice b1 xs.length d1, .int .i64 2000] V fun e w' => Below V.heap.size V w' ∧ ((∃ err : Int, e = .returned (.tuple #[.agg #[.slice none 0 0], .slice none 0 0, .int .i64 err]) ∧ ¬ err = 0) ∨
    (∃ (t : List NodeA) (ims : List Int) (a' : Option Addr) (c' : Nat) (b' : Option Addr) (d' : Nat), e = .returned (.tuple #[.agg #[.slice a' t.length c'], .slice b' ims.length d', .int .i64 0]) ∧ TabR w' t a' c' ∧ IntsR w' ims b' d' ∧ Cl t ∧ ims.length ≤ 100 ∧ ∀ x ∈ ims, 0 ≤ x ∧ x < (t.length : Int)))) := fun V hV => OfA_any l a c xs b1 d1 V (hG.below hV) (hA.below hV) hl3 (hX.below hV) (by omega)
  have HGC := Lib.hid hG
  clear hgr hA hX hG hXX hB0
  go_enter Tryd.func3, Tryd.ntmps3
  go_wp2_with fail
  rw [← hW0]
  clear hW0
  refine HGr.out.mono ?_
  rintro e w1 ⟨rfl, hb1⟩
  have HB1 : Hid (Below w.heap.size w w1) := HB0.out.trans (hb1.mono HB0.out.size)
  clear x0 xz
  obtain ⟨x0, xz⟩ := HXX.out w1 hb1
  clear hb1
  go_wp2_with fail
  refine (HOf.out _ HB1.out).mono ?_
  rintro e w2 ⟨hb2, ⟨err, rfl, he⟩ | ⟨t, ims, a', c', b', d', rfl, hT, hI, hcl, hil, hpl⟩⟩
  · have e0 := ne_t he
    have HB2 : Hid (Below w.heap.size w w2) := ball HB1.out hb2
    clear hb2 he x0 xz
    go_wp2_with fail
    have hb3 := (Below.refl _ w2).alloc (Nat.le_refl _) (.cells #[.slice none 0 0] 24)
    refine (HWk.out _ (ball HB2.out hb3)).mono ?_
    rintro e w4 ⟨rfl, hb4⟩
    have HB4 : Hid (Below w.heap.size w w4) := ball (ball HB2.out hb3) hb4
    clear hb3 hb4
    go_wp2_with fail
    go_ret
    exact ⟨rfl, HB4.out⟩
  have htl := hcl.len
  have hc' := hT.le
  have hd' := hI.le
  obtain ⟨W3, hW3⟩ : ∃ W3, W3 = w2.alloc (.cells #[.slice a' t.length c'] 24) := ⟨_, rfl⟩
  obtain ⟨hb3, hYY⟩ := tab_box hW3
  have HB3 : Hid (Below w.heap.size w W3) := ball (ball HB1.out hb2) hb3
  have HO2 : Hid (Calls Tryd.prog 7 #[.agg #[.slice a' t.length c'], .slice b' ims.length d', .int .i64 2000] W3 fun e w' => Below W3.heap.size W3 w' ∧ ∃ (m : Nat) (a2 : Option Addr) (c2 : Nat) (b2 : Option Addr) (d2 : Nat), e = .returned (.tuple #[.agg #[.slice a2 m c2], .slice b2 ims.length d2, .int .i64 0]) ∧ m ≤ t.length) := Of2_any t hcl a' c' ims b' d' W3 (HGC.out.below HB3.out) (hT.below hb3) (hI.below hb3) (by omega) hpl
  have HIs : Hid (∀ V, Below W3.heap.size W3 V → Calls Tryd.prog 8 #[.agg #[.slice a' t.length c']] V fun e w' => e = .returned (.bool true) ∧ Below V.heap.size V w') := fun V hV => RIs_any t hcl a' c' V ((hT.below hb3).below hV)
  have HYY := Lib.hid hYY
  obtain ⟨y0, yz⟩ := hYY _ (Below.refl _ _)
  clear hb2 hb3 hT hI hcl hil hpl hYY x0 xz HXX HGr HOf
  go_wp2_with fail
  rw [← hW3]
  clear hW3
  refine HO2.out.mono ?_
  rintro e w4 ⟨hb4, m, a2, c2, b2, d2, rfl, hm⟩
  obtain ⟨W5, hW5⟩ : ∃ W5, W5 = w4.alloc (.cells #[.slice a2 m c2] 24) := ⟨_, rfl⟩
  obtain ⟨hb5, hZZ⟩ := tab_box hW5
  have HB5 : Hid (Below W3.heap.size W3 W5) := ball hb4 hb5
  have HZZ := Lib.hid hZZ
  clear y0 yz
  obtain ⟨y0, yz⟩ := HYY.out w4 hb4
  have dm : decide ((m : Int) ≤ (t.length : Int)) = true := decide_eq_true (by omega)
  clear hb4 hb5 hZZ
  go_wp2_with fail
  rw [← hW5]
  clear hW5
  refine (HIs.out _ HB5.out).mono ?_
  rintro e w6 ⟨rfl, hb6⟩
  have HB6 : Hid (Below W3.heap.size W3 w6) := ball HB5.out hb6
  clear y0 yz
  obtain ⟨y0, yz⟩ := HYY.out w6 HB6.out
  obtain ⟨z0, zz⟩ := HZZ.out w6 hb6
  clear hb6
  go_wp2_with fail
  refine (HWk.out _ (ball HB3.out HB6.out)).mono ?_
  rintro e w7 ⟨rfl, hb7⟩
  have HB7 : Hid (Below w.heap.size w w7) := ball (ball HB3.out HB6.out) hb7
  clear hb7
  go_wp2_with fail
  go_ret
  exact ⟨rfl, HB7.out⟩
end Go.Proofs.YtjibhkgphahbaaaDoor.Tm
