/- gantrylaw09's wakes. -/
import Derived.Test.YtfhcmhlbidjjgaaDoorVaS
import Derived.Test.YtfhcmhlbidjjgaaDoorVaT
namespace Go.Proofs.YtfhcmhlbidjjgaaDoor
open Go.RowKit
set_option linter.unusedVariables false
theorem ab_new (V : World) (v : Int) : AbR (V.alloc (.cells #[.int .i64 v] 3)) V.heap.size v := heap_alloc_new V _
theorem AbR.alloc {V : World} {ab : Nat} {v : Int} (h : AbR V ab v) (o : Obj) : AbR (V.alloc o) ab v := h.below ((Below.refl _ _).alloc (Nat.le_refl _) _)
theorem OneR.alloc {V : World} {m : Nat} (h : OneR V m) (o : Obj) : OneR (V.alloc o) m := h.below ((Below.refl _ _).alloc (Nat.le_refl _) _)
def txt3 : ByteArray := ⟨#[40, 45, 32, 51, 41]⟩
theorem wk_text : txA [] 1 (-3) = txt3 ∧ txE 0 1 (-3) = 0 := by
  have h1 : txE 0 1 (-3) = 0 := by decide
  have h2 : textV (-3) = [40, 45, 32, 51, 41] := by
    have hd : dec 3 = [51] := by rw [dec_eq, decP_small (by decide)]; decide
    unfold textV
    rw [if_pos (by decide), if_pos (by decide), show (- (-3 : Int)).toNat = 3 from rfl, hd]
    rfl
  refine ⟨?_, h1⟩
  unfold txA
  rw [show ([] : List ByteArray).length = 0 from rfl, h1, if_pos rfl]
  unfold txS
  rw [if_neg (by decide), if_pos rfl, h2]
  rfl
set_option maxRecDepth 100000 in
set_option maxHeartbeats 4000000 in
theorem wakes_any (w : World) (hG : GV w) : Calls Tryd.prog 5 #[] w fun e w' => e = .returned (.bool true) ∧ Below w.heap.size w w' := by
  have HG : Hid (∀ V, Below w.heap.size w V → GV V) := fun V hV => hG.below hV
  clear hG
  go_enter Tryd.func5, Tryd.ntmps5
  go_wp2_with fail
  refine (one_any _).mono ?_
  rintro e w1 ⟨m1, rfl, hO1, hb1⟩
  go_wp2_with fail
  refine (one_any _).mono ?_
  rintro e w2 ⟨m2, rfl, hO2, hb2⟩
  go_wp2_with fail
  refine (Plain_one m2 _).mono ?_
  rintro e w3 ⟨sa, sc, fb, rfl, hW3, hb3⟩
  have HB3 : Hid (Below w.heap.size w w3) := hb1.trans ((hb2.trans (hb3.mono hb2.size)).mono hb1.size)
  have HO3 : Hid (OneR w3 m1) := (hO1.below hb2).below hb3
  have HW3 := Lib.hid hW3
  clear hO1 hO2 hb1 hb2 hb3 hW3
  obtain ⟨W4, hW4⟩ : ∃ W4, W4 = w3.alloc (.cells #[.int .i64 3] 3) := ⟨_, rfl⟩
  have hb4 : Below w3.heap.size w3 W4 := by rw [hW4]; exact (Below.refl _ _).alloc (Nat.le_refl _) _
  have HWi : Hid (Calls Tryd.prog 8 #[.agg #[.slice none 0 0, .slice (some ⟨m1, 0, none⟩) 1 1, .slice none 0 0], .agg #[.slice sa 0 sc, .slice (some ⟨fb, 0, none⟩) 1 1], .int .i64 0, .slice (some ⟨w3.heap.size, 0, none⟩) 1 1, .int .i64 7] W4 (WiPost W4 3 7)) :=
    With_one m1 fb w3.heap.size 3 7 sa sc 1 W4 (HG.out _ (HB3.out.trans (hb4.mono HB3.out.size))).s (HO3.out.below hb4) (HW3.out.below hb4) (by decide) (by rw [hW4]; exact ab_new w3 3) (by decide) (by decide)
  have HB4 : Hid (Below w.heap.size w W4) := HB3.out.trans (hb4.mono HB3.out.size)
  clear hb4 HW3 HO3 HB3
  go_wp2_with fail
  rw [← hW4]
  clear hW4
  refine HWi.out.mono ?_
  rintro e w5 ⟨sa5, sc5, g, c, ra, rc, rfl, hW5, hb5⟩
  have HB5 : Hid (Below w.heap.size w w5) := HB4.out.trans (hb5.mono HB4.out.size)
  have HW5 := Lib.hid hW5
  clear hb5 HWi HB4 hW5
  obtain ⟨W6, hW6⟩ : ∃ W6, W6 = w5.alloc (.cells #[.slice sa5 0 sc5, .slice (some ⟨g, 0, none⟩) 1 c] 44) := ⟨_, rfl⟩
  have hb6 : Below w5.heap.size w5 W6 := by rw [hW6]; exact (Below.refl _ _).alloc (Nat.le_refl _) _
  have hx6 : W6.heap[w5.heap.size]? = some (.cells #[.slice sa5 0 sc5, .slice (some ⟨g, 0, none⟩) 1 c] 44 (0, 0)) := by rw [hW6]; exact heap_alloc_new w5 _
  have HB6 : Hid (Below w.heap.size w W6) := HB5.out.trans (hb6.mono HB5.out.size)
  have hlt6 := (Array.getElem?_eq_some_iff.1 hx6).1
  have HK : Hid (∀ V, Below W6.heap.size W6 V → V.cell? ⟨w5.heap.size, 0, none⟩ = some (.slice sa5 0 sc5) ∧ V.cell? ⟨w5.heap.size, 1, none⟩ = some (.slice (some ⟨g, 0, none⟩) 1 c)) := fun V hV => by
    have hx := (hV.block _ hlt6).trans hx6
    have e0 := cell_of_row _ _ 0 _ _ _ hx
    have e1 := cell_of_row _ _ 1 _ _ _ hx
    simp only [List.getElem?_toArray, List.getElem?_cons_zero, List.getElem?_cons_succ] at e0 e1
    exact ⟨e0, e1⟩
  have hW6r := HW5.out.below hb6
  have HAp : Hid (∀ m ab V v n, OneR V m → AbR V ab v → Below W6.heap.size W6 V → mayB v = true → ((v = 3 ∧ n = 7) ∨ (v ≠ 3 ∧ n = 0)) → Calls Tryd.prog 11 #[.agg #[.slice none 0 0, .slice (some ⟨m, 0, none⟩) 1 1, .slice none 0 0], .agg #[.slice sa5 0 sc5, .slice (some ⟨g, 0, none⟩) 1 c], .int .i64 0, .slice (some ⟨ab, 0, none⟩) 1 1] V (ApPost V n)) := fun m ab V v n hO hA hV hv hn =>
    Apply_one m g ab v n sa5 sc5 c [⟨3, 0, 0, 7⟩] ra rc V (HG.out _ (HB6.out.trans (hV.mono HB6.out.size))).s hO (hW6r.below hV) hA hv (by
      rcases hn with ⟨rfl, rfl⟩ | ⟨h, rfl⟩
      · exact .inl ⟨0, _, rfl, rfl, rfl⟩
      · exact .inr ⟨by simp [RowA.key, h], rfl⟩)
  clear hb6 hx6 hW6r HW5 HB5
  go_wp2_with fail
  rw [← hW6]
  clear hW6
  obtain ⟨c0, c1⟩ := HK.out W6 (Below.refl _ _)
  go_region_held3 (fun V => V.cell? ⟨w5.heap.size, 0, none⟩ = some (.slice sa5 0 sc5) ∧ V.cell? ⟨w5.heap.size, 1, none⟩ = some (.slice (some ⟨g, 0, none⟩) 1 c))
    (first | with_reducible exact HK.out _ (by assumption) | exact HK.out _ (belowA (by assumption) _) | exact HK.out _ (Below.refl _ _) | exact HK.out _ (Below.refl _ _).drew | exact HK.out _ (belowA (Below.refl _ _).drew _))
    (first | (go_at_call 9; refine (one_any _).mono ?_; rintro e w7 ⟨m7, rfl, hO7, hb7⟩; have HB7 : Below W6.heap.size W6 w7 := ball' (by first | exact (Below.refl _ _).drew | exact belowA (Below.refl _ _).drew _) hb7) | (go_at_call 11; refine (HAp.out m7 _ _ 3 7 (by first | exact hO7 | exact hO7.alloc _) (by first | exact ab_new _ 3 | exact AbR.below (w := World.drew (World.alloc _ _)) (ab_new _ 3) hb7) (by first | exact HB7 | exact belowA HB7 _) (by decide) (.inl ⟨rfl, rfl⟩)).mono ?_; rintro e w8 ⟨rfl, hb8⟩; have HB8 : Below W6.heap.size W6 w8 := ball' (by first | exact HB7 | exact belowA HB7 _) hb8))
  all_goals
    have HK8 : Hid (∀ V, Below w8.heap.size w8 V → V.cell? ⟨w5.heap.size, 0, none⟩ = some (.slice sa5 0 sc5) ∧ V.cell? ⟨w5.heap.size, 1, none⟩ = some (.slice (some ⟨g, 0, none⟩) 1 c)) := fun V hV => HK.out V (ball' HB8 hV)
    have HAp8 : Hid (∀ m ab V v n, OneR V m → AbR V ab v → Below w8.heap.size w8 V → mayB v = true → ((v = 3 ∧ n = 7) ∨ (v ≠ 3 ∧ n = 0)) → Calls Tryd.prog 11 #[.agg #[.slice none 0 0, .slice (some ⟨m, 0, none⟩) 1 1, .slice none 0 0], .agg #[.slice sa5 0 sc5, .slice (some ⟨g, 0, none⟩) 1 c], .int .i64 0, .slice (some ⟨ab, 0, none⟩) 1 1] V (ApPost V n)) := fun m ab V v n hO hA hV hv hn => HAp.out m ab V v n hO hA (ball' HB8 hV) hv hn
    have HBw8 : Hid (Below w.heap.size w w8) := HB6.out.trans (HB8.mono HB6.out.size)
    have hlt8 : w5.heap.size < w8.heap.size := Nat.lt_of_lt_of_le hlt6 HB8.size
    clear HB8 hb8 HB7 hb7 hO7 HAp HK hlt6 c0 c1
    obtain ⟨c0, c1⟩ := HK8.out w8 (Below.refl _ _)
    go_wp2_with fail
    go_region_held3 (fun V => V.cell? ⟨w5.heap.size, 0, none⟩ = some (.slice sa5 0 sc5) ∧ V.cell? ⟨w5.heap.size, 1, none⟩ = some (.slice (some ⟨g, 0, none⟩) 1 c))
      (first | with_reducible exact HK8.out _ (by assumption) | exact HK8.out _ (belowA (by assumption) _) | exact HK8.out _ (Below.refl _ _) | exact HK8.out _ (Below.refl _ _).drew | exact HK8.out _ (belowA (Below.refl _ _).drew _))
      (first | (go_at_call 9; refine (one_any _).mono ?_; rintro e w9 ⟨m9, rfl, hO9, hb9⟩; have HB9 : Below w8.heap.size w8 w9 := ball' (by first | exact (Below.refl _ _).drew | exact belowA (Below.refl _ _).drew _) hb9) | (go_at_call 11; refine (HAp8.out m9 _ _ 4 0 (by first | exact hO9 | exact hO9.alloc _) (by first | exact ab_new _ 4 | exact AbR.below (w := World.drew (World.alloc _ _)) (ab_new _ 4) hb9) (by first | exact HB9 | exact belowA HB9 _) (by decide) (.inr ⟨by decide, rfl⟩)).mono ?_; rintro e w10 ⟨rfl, hb10⟩; have HB10 : Below w8.heap.size w8 w10 := ball' (by first | exact HB9 | exact belowA HB9 _) hb10))
    all_goals
      have HBw10 : Hid (Below w.heap.size w w10) := HBw8.out.trans (HB10.mono HBw8.out.size)
      clear HB10 hb10 HB9 hb9 hO9 HAp8 HK8 hlt8 c0 c1 HBw8
      go_wp2_with fail
      refine (one_any _).mono ?_
      rintro e w11 ⟨m11, rfl, hO11, hb11⟩
      have HB11 : Hid (Below w.heap.size w w11) := HBw10.out.trans (hb11.mono HBw10.out.size)
      have HTx : Hid (Calls Tryd.prog 6 #[.agg #[.slice none 0 0, .slice (some ⟨m11, 0, none⟩) 1 1, .slice none 0 0], .int .i64 1, .int .i64 (-3)] w11 fun e w' => e = .returned (.tuple #[.string ⟨#[40, 45, 32, 51, 41]⟩, .int .i64 0]) ∧ Below w11.heap.size w11 w') := by
        refine (Text_any (sig1 m11) 1 (-3) w11 (HG.out _ HB11.out) hO11.sig ⟨by decide, by decide⟩ ⟨by decide, by decide⟩ (by simp [sig1]) (fun s hs => by simp [sig1] at hs)).mono ?_
        rintro e w' ⟨rfl, h2⟩
        exact ⟨by rw [show (sig1 m11).sorts = [] from rfl, wk_text.1, show ([] : List ByteArray).length = 0 from rfl, wk_text.2]; rfl, h2⟩
      clear hb11 hO11
      go_wp2_with fail
      refine HTx.out.mono ?_
      rintro e w12 ⟨rfl, hb12⟩
      go_wp2
      go_ret
      exact ⟨rfl, HB11.out.trans (hb12.mono HB11.out.size)⟩
end Go.Proofs.YtfhcmhlbidjjgaaDoor
