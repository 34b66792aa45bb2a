/- What the laws ask ahead of all else. -/
import Derived.Test.YtinogambkfihpaaDoorOfH
import Derived.Test.YtinogambkfihpaaDoorOfI
namespace Go.Proofs.YtinogambkfihpaaDoor.Tm
open Go.RowKit
set_option linter.unusedVariables false
def appN : NodeA := ⟨13, 0, 0, 0, 0, 1, 0, 0⟩
def addN1 : NodeA := ⟨11, 1, 2, 0, 0, 1, 0, 1⟩
def addN2 : NodeA := ⟨11, 1, 3, 0, 0, 1, 0, 2⟩
def x1 : List NodeA := newL ++ [appN]
def x2 : List NodeA := x1 ++ [addN1]
def x3 : List NodeA := x2 ++ [addN2]
theorem node_lit {a b c d e f g h : Int} (ha : I8 a) (hb : I8 b) (hc : I64 c) (hd : I64 d) (he : I64 e) (hf : I64 f) (hg : I64 g) (hh : I64 h) : NodeOk ⟨a, b, c, d, e, f, g, h⟩ := ⟨ha, hb, hc, hd, he, hf, hg, hh⟩
theorem appN_ok : NodeOk appN := node_lit (i8_of (by omega)) (i8_of (by omega)) zero_i64 zero_i64 zero_i64 (i64_of (by omega)) zero_i64 zero_i64
theorem addN1_ok : NodeOk addN1 := node_lit (i8_of (by omega)) (i8_of (by omega)) (i64_of (by omega)) zero_i64 zero_i64 (i64_of (by omega)) zero_i64 (i64_of (by omega))
theorem addN2_ok : NodeOk addN2 := node_lit (i8_of (by omega)) (i8_of (by omega)) (i64_of (by omega)) zero_i64 zero_i64 (i64_of (by omega)) zero_i64 (i64_of (by omega))
theorem putF_new {l : List NodeA} {N : NodeA} {most : Int} (hm : mayT l = true) (hs : standsB N l.length = true) (hi : N ∉ l) (hlt : (l.length : Int) < most) : putF l N most = (l ++ [N], (l.length : Int), 0) := by
  unfold putF; rw [if_pos ⟨hm, hs⟩, if_neg hi, if_neg (by omega)]
theorem putF_there {l : List NodeA} {N : NodeA} {most : Int} (hm : mayT l = true) (hs : standsB N l.length = true) (hi : N ∈ l) : putF l N most = (l, (fndN l N : Int), 0) := by
  unfold putF; rw [if_pos ⟨hm, hs⟩, if_pos hi]
theorem put1 : putF newL appN 99 = (x1, 2, 0) := putF_new (by decide) (by decide) (by decide) (by decide)
theorem put2 : putF x1 addN1 99 = (x2, 3, 0) := putF_new (by decide) (by decide) (by decide) (by decide)
theorem put3 : putF x2 addN2 99 = (x3, 4, 0) := putF_new (by decide) (by decide) (by decide) (by decide)
theorem may_x3 : mayT x3 = true := by decide
theorem of_x : OfP x3 4 = (2, 3, 0) := by decide
theorem diff_x : diffP x3 4 1 10 = (2, 1, 7, 0) := by decide
theorem put_x : putF x3 ⟨1, 1, 0, 0, 0, 0, 0, 0⟩ 99 = (x3 ++ [⟨1, 1, 0, 0, 0, 0, 0, 0⟩], 5, 0) := putF_new (by decide) (by decide) (by decide) (by decide)
theorem diff_x2 : diffP x3 4 3 1 = (2, 2, -1, 0) := by decide
theorem comp_x : compN 2 2 (-1) = ⟨1, 1, 0, 0, 0, 0, 0, 0⟩ := by decide
theorem le_x : leP x3 4 3 1 99 = (x3 ++ [⟨1, 1, 0, 0, 0, 0, 0, 0⟩], 5, false, 0) := by
  unfold leP
  rw [diff_x2, comp_x, put_x]
  rfl
theorem ord_x : ordB x3 = false := by decide
/-- A table in a box: what a store of another one leaves. -/
structure BoxT (W0 X : World) (B : Nat) (L : List NodeA) (a : Option Addr) (c : Nat) : Prop where
  below : Below W0.heap.size W0 X
  tab : TabR X L a c
  box : X.heap[B]? = some (.cells #[.slice a L.length c] 33 (0, 0))
theorem BoxT.new {W0 V : World} {L : List NodeA} {a : Option Addr} {c : Nat} (hb : Below W0.heap.size W0 V) (hT : TabR V L a c) : BoxT W0 (V.alloc (.cells #[.slice a L.length c] 33)) V.heap.size L a c :=
  ⟨hb.alloc hb.size _, hT.below ((Below.refl _ V).alloc (Nat.le_refl _) _), heap_alloc_new V _⟩
theorem BoxT.set {W0 X V : World} {B : Nat} {L L' : List NodeA} {a a' : Option Addr} {c c' : Nat} (h : BoxT W0 X B L a c) (hB : W0.heap.size ≤ B) (hb : Below X.heap.size X V) (hT : TabR V L' a' c') : BoxT W0 (V.setCell ⟨B, 0, none⟩ (.slice a' L'.length c')) B L' a' c' := by
  have h1 := (hb.block _ (Array.getElem?_eq_some_iff.1 h.box).1).trans h.box
  exact ⟨(h.below.trans (hb.mono h.below.size)).setCell (p := ⟨B, 0, none⟩) hB _, hT.box h1 _, heap_setCell_same V B 0 _ _ _ h1⟩
set_option maxRecDepth 100000 in
set_option maxHeartbeats 4000000 in
theorem x_any (w : World) (hG : GT w) : Calls Tryd.prog 13 #[] w fun e w' => ∃ a c, e = .returned (.agg #[.slice a 5 c]) ∧ TabR w' x3 a c ∧ Below w.heap.size w w' := by
  have HB0 : Hid (Below w.heap.size w (w.alloc (.cells #[.slice none 0 0] 33))) := (Below.refl _ w).alloc (Nat.le_refl _) _
  obtain ⟨W0, hW0⟩ : ∃ W0, W0 = w.alloc (.cells #[.slice none 0 0] 33) := ⟨_, rfl⟩
  have hy0 : W0.heap[w.heap.size]? = some (.cells #[.slice none 0 0] 33 (0, 0)) := by rw [hW0]; exact heap_alloc_new w _
  rw [← hW0] at HB0
  have HY := Lib.hid hy0
  have HN : Hid (Calls Tryd.prog 25 #[] W0 fun e w' => ∃ a, e = .returned (.agg #[.slice a 2 2]) ∧ TabR w' newL a 2 ∧ Below W0.heap.size W0 w') := (New_any W0).mono fun e w' ⟨h1, h2, h3⟩ => ⟨_, h1, h2, h3⟩
  have HP1 : Hid (∀ V a c, Below W0.heap.size W0 V → TabR V newL a c → Calls Tryd.prog 16 #[.agg #[.slice a 2 c], .agg #[.int .i8 13, .int .i8 0, .int .i64 0, .int .i64 0, .int .i64 0, .int .i64 1, .int .i64 0, .int .i64 0], .int .i64 99] V (TabOut V (x1, 2, 0))) := fun V a c hV hT => PutF_any newL a c appN 99 _ V (hG.below (HB0.out.trans (hV.mono HB0.out.size))) hT appN_ok (i64_of (by omega)) (by decide) put1
  have HP2 : Hid (∀ V a c, Below W0.heap.size W0 V → TabR V x1 a c → Calls Tryd.prog 16 #[.agg #[.slice a x1.length c], .agg #[.int .i8 11, .int .i8 1, .int .i64 2, .int .i64 0, .int .i64 0, .int .i64 1, .int .i64 0, .int .i64 1], .int .i64 99] V (TabOut V (x2, 3, 0))) := fun V a c hV hT => PutF_any x1 a c addN1 99 _ V (hG.below (HB0.out.trans (hV.mono HB0.out.size))) hT addN1_ok (i64_of (by omega)) (by decide) put2
  have HP3 : Hid (∀ V a c, Below W0.heap.size W0 V → TabR V x2 a c → Calls Tryd.prog 16 #[.agg #[.slice a x2.length c], .agg #[.int .i8 11, .int .i8 1, .int .i64 3, .int .i64 0, .int .i64 0, .int .i64 1, .int .i64 0, .int .i64 2], .int .i64 99] V (TabOut V (x3, 4, 0))) := fun V a c hV hT => PutF_any x2 a c addN2 99 _ V (hG.below (HB0.out.trans (hV.mono HB0.out.size))) hT addN2_ok (i64_of (by omega)) (by decide) put3
  clear hG hy0
  go_enter Tryd.func13, Tryd.ntmps13
  go_wp2_with (go_at_call 25; rw [← hW0]; clear hW0; refine HN.out.mono ?_; rintro e w1 ⟨a1, rfl, ht1, hb1⟩; have B1 := Lib.hid (BoxT.new hb1 ht1); have hz := hb1.size; clear ht1 hb1)
  refine (HP1.out _ _ _ B1.out.below B1.out.tab).mono ?_
  rintro e w2 ⟨a2, c2, rfl, ht2, hb2⟩
  obtain ⟨k0, kf, kz⟩ := box3' ((hb2.block _ (Array.getElem?_eq_some_iff.1 B1.out.box).1).trans B1.out.box)
  have B2 := Lib.hid (B1.out.set hz hb2 ht2)
  clear hb2 ht2
  go_wp2_with fail
  refine (HP2.out _ _ _ B2.out.below B2.out.tab).mono ?_
  rintro e w3 ⟨a3, c3, rfl, ht3, hb3⟩
  clear k0 kf kz
  obtain ⟨k0, kf, kz⟩ := box3' ((hb3.block _ (Array.getElem?_eq_some_iff.1 B2.out.box).1).trans B2.out.box)
  have B3 := Lib.hid (B2.out.set hz hb3 ht3)
  clear hb3 ht3
  go_wp2_with fail
  refine (HP3.out _ _ _ B3.out.below B3.out.tab).mono ?_
  rintro e w4 ⟨a4, c4, rfl, ht4, hb4⟩
  clear k0 kf kz
  obtain ⟨k0, kf, kz⟩ := box3' ((hb4.block _ (Array.getElem?_eq_some_iff.1 B3.out.box).1).trans B3.out.box)
  have B4 := Lib.hid (B3.out.set hz hb4 ht4)
  have hyz := (Array.getElem?_eq_some_iff.1 HY.out).1
  have hw4 : Below W0.heap.size W0 w4 := B3.out.below.trans (hb4.mono B3.out.below.size)
  obtain ⟨m0, mf, mz⟩ := box3' ((hw4.block _ hyz).trans HY.out)
  have hlt : w.heap.size < w1.heap.size := by omega
  clear hb4 ht4 hw4
  go_wp2_with fail
  have hy4 := (B4.out.below.block _ hyz).trans HY.out
  generalize w4.setCell ⟨w1.heap.size, 0, none⟩ (.slice a4 x3.length c4) = X at B4 hy4 ⊢
  have r0 : (X.setCell ⟨w.heap.size, 0, none⟩ (.slice a4 x3.length c4)).cell? ⟨w.heap.size, 0, none⟩ = some (.slice a4 x3.length c4) := World.cell?_setCell_same' _ _ _ (by rw [(box3' hy4).1]; rfl)
  refine bodyPost_ret (v := .agg #[.slice a4 x3.length c4]) (by simp [results, Tryd.results13, go_sem, r0]) rfl ⟨a4, c4, rfl, B4.out.tab.box hy4 _, ?_⟩
  exact (HB0.out.trans (B4.out.below.mono HB0.out.size)).setCell (p := ⟨w.heap.size, 0, none⟩) (Nat.le_refl _) _
set_option maxRecDepth 100000 in
set_option maxHeartbeats 4000000 in
theorem wakes_any (w : World) (hG : GT w) : Calls Tryd.prog 7 #[] w fun e w' => e = .returned (.bool true) ∧ Below w.heap.size w w' := by
  have HX : Hid (∀ V, Below w.heap.size w V → Calls Tryd.prog 13 #[] V fun e w' => ∃ a c, e = .returned (.agg #[.slice a 5 c]) ∧ TabR w' x3 a c ∧ Below w.heap.size w w') := fun V hV => (x_any V (hG.below hV)).mono fun e w' ⟨a, c, h1, h2, h3⟩ => ⟨a, c, h1, h2, hV.trans (h3.mono hV.size)⟩
  have HOf : Hid (∀ V a c, Below w.heap.size w V → TabR V x3 a c → Calls Tryd.prog 12 #[.agg #[.slice a 5 c], .int .i64 4] V fun e w' => e = .returned (.tuple #[.int .i64 2, .int .i64 3, .int .i64 0]) ∧ Below w.heap.size w w') := fun V a c hV hT => (Of_any x3 a c 4 (2, 3, 0) V (hG.below hV) hT (by decide) (i64_of (by omega)) of_x).mono fun e w' ⟨h1, h2⟩ => ⟨h1, hV.trans (h2.mono hV.size)⟩
  have HDi : Hid (∀ V a c, Below w.heap.size w V → TabR V x3 a c → Calls Tryd.prog 14 #[.agg #[.slice a 5 c], .int .i64 4, .int .i64 1, .int .i64 10] V fun e w' => e = .returned (.tuple #[.int .i64 2, .int .i64 1, .int .i64 7, .int .i64 0]) ∧ Below w.heap.size w w') := fun V a c hV hT => (Diff_any x3 a c 4 1 10 (2, 1, 7, 0) V (hG.below hV) hT (by decide) (i64_of (by omega)) (i64_of (by omega)) (i64_of (by omega)) diff_x).mono fun e w' ⟨h1, h2⟩ => ⟨h1, hV.trans (h2.mono hV.size)⟩
  have HLe : Hid (∀ V a c, Below w.heap.size w V → TabR V x3 a c → Calls Tryd.prog 8 #[.agg #[.slice a 5 c], .int .i64 4, .int .i64 3, .int .i64 1, .int .i64 99] V fun e w' => ∃ a' c', e = .returned (.tuple #[.agg #[.slice a' 6 c'], .int .i64 5, .bool false, .int .i64 0]) ∧ Below w.heap.size w w') := fun V a c hV hT => (Le_any x3 a c 4 3 1 99 _ V (hG.below hV) hT (by decide) (i64_of (by omega)) (i64_of (by omega)) (i64_of (by omega)) (i64_of (by omega)) le_x).mono fun e w' ⟨a', c', h1, h2, h3⟩ => ⟨a', c', h1, hV.trans (h3.mono hV.size)⟩
  have HOr : Hid (∀ V a c, Below w.heap.size w V → TabR V x3 a c → Calls Tryd.prog 15 #[.agg #[.slice a 5 c]] V fun e w' => e = .returned (.bool false) ∧ Below w.heap.size w w') := fun V a c hV hT => (Ordered_any x3 a c false V (hG.below hV) hT (by decide) ord_x).mono fun e w' ⟨h1, h2⟩ => ⟨h1, hV.trans (h2.mono hV.size)⟩
  clear hG
  go_enter Tryd.func7, Tryd.ntmps7
  go_wp2_with fail
  refine (HX.out _ (Below.refl _ _)).mono ?_
  rintro e v1 ⟨a1, c1, rfl, hT1, hv1⟩
  have HT1 := Lib.hid hT1
  have HV1 := Lib.hid hv1
  clear hT1 hv1
  go_wp2_with fail
  refine (HOf.out _ _ _ HV1.out HT1.out).mono ?_
  rintro e v2 ⟨rfl, hv2⟩
  have HV2 := Lib.hid hv2
  clear hv2
  go_wp2_with fail
  refine (HX.out _ HV2.out).mono ?_
  rintro e v3 ⟨a3, c3, rfl, hT3, hv3⟩
  have HT3 := Lib.hid hT3
  have HV3 := Lib.hid hv3
  clear hT3 hv3
  go_wp2_with fail
  refine (HDi.out _ _ _ HV3.out HT3.out).mono ?_
  rintro e v4 ⟨rfl, hv4⟩
  have HV4 := Lib.hid hv4
  clear hv4
  go_wp2_with fail
  refine (HX.out _ HV4.out).mono ?_
  rintro e v5 ⟨a5, c5, rfl, hT5, hv5⟩
  have HT5 := Lib.hid hT5
  have HV5 := Lib.hid hv5
  clear hT5 hv5
  go_wp2_with fail
  refine (HLe.out _ _ _ HV5.out HT5.out).mono ?_
  rintro e v6 ⟨a6, c6, rfl, hv6⟩
  have HV6 := Lib.hid hv6
  clear hv6
  go_wp2_with fail
  refine (HX.out _ (HV6.out.alloc HV6.out.size _)).mono ?_
  rintro e v7 ⟨a7, c7, rfl, hT7, hv7⟩
  have HT7 := Lib.hid hT7
  have HV7 := Lib.hid hv7
  clear hT7 hv7
  go_wp2_with fail
  refine (HOr.out _ _ _ HV7.out HT7.out).mono ?_
  rintro e v8 ⟨rfl, hv8⟩
  have HV8 := Lib.hid hv8
  clear hv8
  go_wp2_with fail
  go_ret
  exact ⟨rfl, HV8.out⟩
end Go.Proofs.YtinogambkfihpaaDoor.Tm
