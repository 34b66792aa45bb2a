/- The document's Same of commands. -/
import Derived.Test.YtodonngnigbpaaaGreatDoorCmW
import Derived.Test.YtodonngnigbpaaaGreatDoorCmS
import Derived.BigQuiet
import Derived.Deep.RegionHeld3
namespace Go.Proofs.YtodonngnigbpaaaGreatDoor
open Go.RowKit
set_option linter.unusedVariables false
set_option maxRecDepth 100000 in
set_option maxHeartbeats 8000000 in
theorem RSame8 (x y : CmdV) (w : World) (hx : CmdS w x) (hy : CmdS w y) :
    Calls Tryz.prog 10 #[.agg #[.int .i8 x.c.kind, .string (bytesL x.c.name), .int .i64 x.c.n, .slice x.la x.c.l.length x.lc, .slice x.aa x.c.args.length x.ac, .slice x.pa x.c.params.length x.pc, .string (bytesL x.c.res), .slice x.ta x.c.terms.length x.tc], .agg #[.int .i8 y.c.kind, .string (bytesL y.c.name), .int .i64 y.c.n, .slice y.la y.c.l.length y.lc, .slice y.aa y.c.args.length y.ac, .slice y.pa y.c.params.length y.pc, .string (bytesL y.c.res), .slice y.ta y.c.terms.length y.tc]] w fun e w' => (∃ r, e = .returned (.bool r) ∧ (r = true ↔ x.c = y.c)) ∧ Below w.heap.size w w' := by
  obtain ⟨W2, hW2⟩ : ∃ W2, W2 = (w.alloc (.cells #[.int .i8 x.c.kind, .string (bytesL x.c.name), .int .i64 x.c.n, .slice x.la x.c.l.length x.lc, .slice x.aa x.c.args.length x.ac, .slice x.pa x.c.params.length x.pc, .string (bytesL x.c.res), .slice x.ta x.c.terms.length x.tc] 28)).alloc (.cells #[.int .i8 y.c.kind, .string (bytesL y.c.name), .int .i64 y.c.n, .slice y.la y.c.l.length y.lc, .slice y.aa y.c.args.length y.ac, .slice y.pa y.c.params.length y.pc, .string (bytesL y.c.res), .slice y.ta y.c.terms.length y.tc] 28) := ⟨_, rfl⟩
  obtain ⟨h1, h2, hb2⟩ := two_new w (.cells #[.int .i8 x.c.kind, .string (bytesL x.c.name), .int .i64 x.c.n, .slice x.la x.c.l.length x.lc, .slice x.aa x.c.args.length x.ac, .slice x.pa x.c.params.length x.pc, .string (bytesL x.c.res), .slice x.ta x.c.terms.length x.tc] 28) (.cells #[.int .i8 y.c.kind, .string (bytesL y.c.name), .int .i64 y.c.n, .slice y.la y.c.l.length y.lc, .slice y.aa y.c.args.length y.ac, .slice y.pa y.c.params.length y.pc, .string (bytesL y.c.res), .slice y.ta y.c.terms.length y.tc] 28)
  rw [← hW2] at h1 h2 hb2
  have hsz : W2.heap.size = w.heap.size + 2 := by rw [hW2]; simp
  have HL := Lib.hid hW2
  have HX : Hid (∀ W, Below W2.heap.size W2 W → Box8 W w.heap.size x ∧ Box8 W (w.heap.size + 1) y) := fun W hW => ⟨(hW.block _ (by omega)).trans h1, (hW.block _ (by omega)).trans h2⟩
  have HB2 := Lib.hid hb2
  have HB0 : Hid (Below W2.heap.size W2 W2) := Below.refl _ _
  have HXS := Lib.hid hx
  have HYS := Lib.hid hy
  have m0 : x.c.l.length ≤ 9223372036854775807 := by have h1 := hx.ll; have h2 := hx.lm; simp only [maxLen] at h2; omega
  have m1 : x.c.args.length ≤ 9223372036854775807 := by have h1 := hx.al; have h2 := hx.am; simp only [maxLen] at h2; omega
  have m2 : x.c.params.length ≤ 9223372036854775807 := by have h1 := hx.pl; have h2 := hx.pm; simp only [maxLen] at h2; omega
  have m3 : x.c.terms.length ≤ 9223372036854775807 := by have h1 := hx.tl; have h2 := hx.tm; simp only [maxLen] at h2; omega
  clear hx hy hW2 h1 h2 hb2
  obtain ⟨a0, a1, a2, a3, a4, a5, a6, a7⟩ := (HX.out _ HB0.out).1.cells
  obtain ⟨b0, b1, b2, b3, b4, b5, b6, b7⟩ := (HX.out _ HB0.out).2.cells
  by_cases h0 : x.c.kind = y.c.kind
  · skip
    have e0 := ne_false h0
    have H0q := Lib.hid h0
    clear h0
    by_cases h1 : x.c.name = y.c.name
    · skip
      have e1 := sl_yes h1
      have H1q := Lib.hid h1
      clear h1
      by_cases h2 : x.c.n = y.c.n
      · skip
        have e2 := ne_false h2
        have H2q := Lib.hid h2
        clear h2
        by_cases h3 : x.c.res = y.c.res
        · skip
          have e3 := sl_yes h3
          have H3q := Lib.hid h3
          clear h3
          by_cases h4 : x.c.l.length = y.c.l.length
          · skip
            have e4 := ne_false (x := (x.c.l.length : Int)) (y := (y.c.l.length : Int)) (by omega)
            have HN0 := Lib.hid h4
            clear h4
            by_cases h5 : x.c.args.length = y.c.args.length
            · skip
              have e5 := ne_false (x := (x.c.args.length : Int)) (y := (y.c.args.length : Int)) (by omega)
              have HN1 := Lib.hid h5
              clear h5
              by_cases h6 : x.c.params.length = y.c.params.length
              · skip
                have e6 := ne_false (x := (x.c.params.length : Int)) (y := (y.c.params.length : Int)) (by omega)
                have HN2 := Lib.hid h6
                clear h6
                by_cases h7 : x.c.terms.length = y.c.terms.length
                · skip
                  have e7 := ne_false (x := (x.c.terms.length : Int)) (y := (y.c.terms.length : Int)) (by omega)
                  have HN3 := Lib.hid h7
                  clear h7
                  have HEQ : Hid (x.c.l = y.c.l → x.c.args = y.c.args → x.c.params = y.c.params → x.c.terms = y.c.terms → x.c = y.c) := fun q0 q1 q2 q3 => cmd_ext H0q.out H1q.out H2q.out H3q.out q0 q1 q2 q3
                  go_enter Tryz.func10, Tryz.ntmps10
                  go_wp2
                  rw [← HL.out]
                  clear HL a0 a1 a2 a3 a4 a5 a6 a7 b0 b1 b2 b3 b4 b5 b6 b7
                  go_loopw [5] (fun i wr => ∃ k : Nat, k ≤ x.c.l.length ∧ i = .int .i64 k ∧ Hid (Below W2.heap.size W2 wr) ∧ Hid (x.c.l.take k = y.c.l.take k)) (fun i _ => x.c.l.length - (intOf i).toNat)
                  case atStart => exact ⟨0, Nat.zero_le _, rfl, HB0.out, by show _ = _; simp⟩
                  case round =>
                    obtain ⟨k0, hkl0, rfl, HW0, HE0⟩ := hrel
                    obtain ⟨a0, a1, a2, a3, a4, a5, a6, a7⟩ := (HX.out _ HW0.out).1.cells
                    obtain ⟨b0, b1, b2, b3, b4, b5, b6, b7⟩ := (HX.out _ HW0.out).2.cells
                    by_cases hlt : k0 < x.c.l.length
                    · have hlt2 : k0 < y.c.l.length := by have := HN0.out; omega
                      obtain ⟨p, hp⟩ : ∃ p, x.c.l[k0]? = some p := ⟨_, List.getElem?_eq_getElem hlt⟩
                      obtain ⟨q, hq⟩ : ∃ q, y.c.l[k0]? = some q := ⟨_, List.getElem?_eq_getElem hlt2⟩
                      have hbw := HB2.out.trans (HW0.out.mono HB2.out.size)
                      obtain ⟨g, o, hxa, hg, hpp⟩ := (HXS.out.below hbw).lat.at.get intC_len (by decide) hp
                      obtain ⟨g', o', hya, hg', hqq⟩ := (HYS.out.below hbw).lat.at.get intC_len (by decide) hq
                      rw [hxa] at a3
                      rw [hya] at b3
                      have p0 := hpp 0 _ rfl
                      have q0 := hqq 0 _ rfl
                      simp only [Nat.mul_one, Nat.add_zero] at p0 q0
                      have HXY := Lib.hid (And.intro hp hq)
                      clear hp hq hpp hqq hbw hxa hya
                      by_cases hxy : p = q
                      · have s1 := ne_false hxy
                        have HE2 : Hid (x.c.l.take (k0 + 1) = y.c.l.take (k0 + 1)) := by
                          show _ = _
                          rw [take_snoc HXY.out.1, take_snoc HXY.out.2, HE0.out, hxy]
                        clear hxy
                        go_wp2
                        go_quiet (fail)
                        go_wp2
                        go_roundw
                        case rel => exact ⟨k0 + 1, by omega, by go_num, below_drewN HW0.out _, HE2⟩
                        case measure => simp [intOf]; omega
                      · have s1 := ne_true hxy
                        have HN : Hid (¬ x.c = y.c) := fun h => hxy (by have h1 := HXY.out.1; rw [h, HXY.out.2] at h1; exact (Option.some.inj h1).symm)
                        clear hxy
                        go_wp2
                        go_quiet (fail)
                        go_wp2
                        go_ret
                        exact ⟨⟨false, rfl, fun h => (by cases h), fun h => absurd h HN.out⟩, HB2.out.trans ((below_drewN HW0.out _).mono HB2.out.size)⟩
                    · have hk : k0 = x.c.l.length := by omega
                      have HT0 : Hid (x.c.l = y.c.l) := by have := HE0.out; rw [hk, List.take_length, HN0.out, List.take_length] at this; exact this
                      subst hk
                      go_wp2
                      clear a0 a1 a2 a3 a4 a5 a6 a7 b0 b1 b2 b3 b4 b5 b6 b7
                      go_loopw [6] (fun i wr => ∃ k : Nat, k ≤ x.c.args.length ∧ i = .int .i64 k ∧ Hid (Below W2.heap.size W2 wr) ∧ Hid (x.c.args.take k = y.c.args.take k)) (fun i _ => x.c.args.length - (intOf i).toNat)
                      case atStart => exact ⟨0, Nat.zero_le _, rfl, HW0.out, by show _ = _; simp⟩
                      case round =>
                        obtain ⟨k1, hkl1, rfl, HW1, HE1⟩ := hrel
                        obtain ⟨a0, a1, a2, a3, a4, a5, a6, a7⟩ := (HX.out _ HW1.out).1.cells
                        obtain ⟨b0, b1, b2, b3, b4, b5, b6, b7⟩ := (HX.out _ HW1.out).2.cells
                        by_cases hlt : k1 < x.c.args.length
                        · have hlt2 : k1 < y.c.args.length := by have := HN1.out; omega
                          obtain ⟨p, hp⟩ : ∃ p, x.c.args[k1]? = some p := ⟨_, List.getElem?_eq_getElem hlt⟩
                          obtain ⟨q, hq⟩ : ∃ q, y.c.args[k1]? = some q := ⟨_, List.getElem?_eq_getElem hlt2⟩
                          have hbw := HB2.out.trans (HW1.out.mono HB2.out.size)
                          obtain ⟨g, o, hxa, hg, hpp⟩ := (HXS.out.below hbw).aat.at.get strC_len (by decide) hp
                          obtain ⟨g', o', hya, hg', hqq⟩ := (HYS.out.below hbw).aat.at.get strC_len (by decide) hq
                          rw [hxa] at a4
                          rw [hya] at b4
                          have p0 := hpp 0 _ rfl
                          have q0 := hqq 0 _ rfl
                          simp only [Nat.mul_one, Nat.add_zero] at p0 q0
                          have HXY := Lib.hid (And.intro hp hq)
                          clear hp hq hpp hqq hbw hxa hya
                          by_cases hxy : p = q
                          · have s1 := sl_yes hxy
                            have HE2 : Hid (x.c.args.take (k1 + 1) = y.c.args.take (k1 + 1)) := by
                              show _ = _
                              rw [take_snoc HXY.out.1, take_snoc HXY.out.2, HE1.out, hxy]
                            clear hxy
                            go_wp2
                            go_quiet (fail)
                            go_wp2
                            go_roundw
                            case rel => exact ⟨k1 + 1, by omega, by go_num, below_drewN HW1.out _, HE2⟩
                            case measure => simp [intOf]; omega
                          · have s1 := sl_no hxy
                            have HN : Hid (¬ x.c = y.c) := fun h => hxy (by have h1 := HXY.out.1; rw [h, HXY.out.2] at h1; exact (Option.some.inj h1).symm)
                            clear hxy
                            go_wp2
                            go_quiet (fail)
                            go_wp2
                            go_ret
                            exact ⟨⟨false, rfl, fun h => (by cases h), fun h => absurd h HN.out⟩, HB2.out.trans ((below_drewN HW1.out _).mono HB2.out.size)⟩
                        · have hk : k1 = x.c.args.length := by omega
                          have HT1 : Hid (x.c.args = y.c.args) := by have := HE1.out; rw [hk, List.take_length, HN1.out, List.take_length] at this; exact this
                          subst hk
                          go_wp2
                          clear a0 a1 a2 a3 a4 a5 a6 a7 b0 b1 b2 b3 b4 b5 b6 b7
                          go_loopw [7] (fun i wr => ∃ k : Nat, k ≤ x.c.params.length ∧ i = .int .i64 k ∧ Hid (Below W2.heap.size W2 wr) ∧ Hid (x.c.params.take k = y.c.params.take k)) (fun i _ => x.c.params.length - (intOf i).toNat)
                          case atStart => exact ⟨0, Nat.zero_le _, rfl, HW1.out, by show _ = _; simp⟩
                          case round =>
                            obtain ⟨k2, hkl2, rfl, HW2, HE2⟩ := hrel
                            obtain ⟨a0, a1, a2, a3, a4, a5, a6, a7⟩ := (HX.out _ HW2.out).1.cells
                            obtain ⟨b0, b1, b2, b3, b4, b5, b6, b7⟩ := (HX.out _ HW2.out).2.cells
                            by_cases hlt : k2 < x.c.params.length
                            · have hlt2 : k2 < y.c.params.length := by have := HN2.out; omega
                              obtain ⟨p, hp⟩ : ∃ p, x.c.params[k2]? = some p := ⟨_, List.getElem?_eq_getElem hlt⟩
                              obtain ⟨q, hq⟩ : ∃ q, y.c.params[k2]? = some q := ⟨_, List.getElem?_eq_getElem hlt2⟩
                              have hbw := HB2.out.trans (HW2.out.mono HB2.out.size)
                              obtain ⟨g, o, hxa, hg, hpp⟩ := (HXS.out.below hbw).pat.at.get parC_len (by decide) hp
                              obtain ⟨g', o', hya, hg', hqq⟩ := (HYS.out.below hbw).pat.at.get parC_len (by decide) hq
                              rw [hxa] at a5
                              rw [hya] at b5
                              have p0 := hpp 0 _ rfl
                              have q0 := hqq 0 _ rfl
                              have p1 := hpp 1 _ rfl
                              have q1 := hqq 1 _ rfl
                              simp only [Nat.add_zero] at p0 q0 p1 q1
                              have HXY := Lib.hid (And.intro hp hq)
                              clear hp hq hpp hqq hbw hxa hya
                              have hq1 := eqi_par p q
                              have hq2 : ∀ W : World, (Op.equal 44 (.agg #[.string (bytesL p.1), .string (bytesL p.2)]) (.agg #[.string (bytesL q.1), .string (bytesL q.2)])).run Tryz.prog W = .ok (decide (p = q)) W := eqi_par p q
                              by_cases hxy : p = q
                              · rw [decide_eq_true hxy] at hq1 hq2
                                have HE2 : Hid (x.c.params.take (k2 + 1) = y.c.params.take (k2 + 1)) := by
                                  show _ = _
                                  rw [take_snoc HXY.out.1, take_snoc HXY.out.2, HE2.out, hxy]
                                clear hxy
                                go_wp2
                                go_quiet (fail)
                                go_wp2
                                go_roundw
                                case rel => exact ⟨k2 + 1, by omega, by go_num, below_drewN HW2.out _, HE2⟩
                                case measure => simp [intOf]; omega
                              · rw [decide_eq_false hxy] at hq1 hq2
                                have HN : Hid (¬ x.c = y.c) := fun h => hxy (by have h1 := HXY.out.1; rw [h, HXY.out.2] at h1; exact (Option.some.inj h1).symm)
                                clear hxy
                                go_wp2
                                go_quiet (fail)
                                go_wp2
                                go_ret
                                exact ⟨⟨false, rfl, fun h => (by cases h), fun h => absurd h HN.out⟩, HB2.out.trans ((below_drewN HW2.out _).mono HB2.out.size)⟩
                            · have hk : k2 = x.c.params.length := by omega
                              have HT2 : Hid (x.c.params = y.c.params) := by have := HE2.out; rw [hk, List.take_length, HN2.out, List.take_length] at this; exact this
                              subst hk
                              go_wp2
                              clear a0 a1 a2 a3 a4 a5 a6 a7 b0 b1 b2 b3 b4 b5 b6 b7
                              go_loopw [8] (fun i wr => ∃ k : Nat, k ≤ x.c.terms.length ∧ i = .int .i64 k ∧ Hid (Below W2.heap.size W2 wr) ∧ Hid (x.c.terms.take k = y.c.terms.take k)) (fun i _ => x.c.terms.length - (intOf i).toNat)
                              case atStart => exact ⟨0, Nat.zero_le _, rfl, HW2.out, by show _ = _; simp⟩
                              case round =>
                                obtain ⟨k3, hkl3, rfl, HW3, HE3⟩ := hrel
                                obtain ⟨a0, a1, a2, a3, a4, a5, a6, a7⟩ := (HX.out _ HW3.out).1.cells
                                obtain ⟨b0, b1, b2, b3, b4, b5, b6, b7⟩ := (HX.out _ HW3.out).2.cells
                                by_cases hlt : k3 < x.c.terms.length
                                · have hlt2 : k3 < y.c.terms.length := by have := HN3.out; omega
                                  obtain ⟨c, hcc⟩ : ∃ c, x.c.terms[k3]? = some c := ⟨_, List.getElem?_eq_getElem hlt⟩
                                  obtain ⟨f, hff⟩ : ∃ f, y.c.terms[k3]? = some f := ⟨_, List.getElem?_eq_getElem hlt2⟩
                                  have hbw := HB2.out.trans (HW3.out.mono HB2.out.size)
                                  have hks : SxL wr x.c.terms x.ta := (HXS.out.below hbw).tat
                                  have hks' : SxL wr y.c.terms y.ta := (HYS.out.below hbw).tat
                                  obtain ⟨g, o, hxa, _, hg, _, _⟩ := hks.addr (by omega)
                                  obtain ⟨g', o', hya, _, hg', _, _⟩ := hks'.addr (by omega)
                                  rw [hxa] at hks a7
                                  rw [hya] at hks' b7
                                  obtain ⟨_, v0, v1, v2, c0, c1, c2, hrt⟩ := hks.get x.c.terms g o k3 c hcc
                                  obtain ⟨ca, cc, hv, _, _, _, _⟩ := hrt.parts
                                  simp only [Value.agg.injEq, Array.mk.injEq, List.cons.injEq, and_true] at hv
                                  obtain ⟨rfl, rfl, rfl⟩ := hv
                                  obtain ⟨_, v0, v1, v2, d0, d1, d2, hrt'⟩ := hks'.get y.c.terms g' o' k3 f hff
                                  obtain ⟨da, dc, hv, _, _, _, _⟩ := hrt'.parts
                                  simp only [Value.agg.injEq, Array.mk.injEq, List.cons.injEq, and_true] at hv
                                  obtain ⟨rfl, rfl, rfl⟩ := hv
                                  have c2' : wr.cell? ⟨g, o + k3 * 3 + 2, none⟩ = some (.slice ca c.kids.length cc) := c2
                                  have d2' : wr.cell? ⟨g', o' + k3 * 3 + 2, none⟩ = some (.slice da f.kids.length dc) := d2
                                  have HCALL : Hid (∀ W : World, Below wr.heap.size wr W → Calls Tryz.prog 12 #[.agg #[.int .i8 c.kind, .string (bytesL c.text), .slice ca c.kids.length cc], .agg #[.int .i8 f.kind, .string (bytesL f.text), .slice da f.kids.length dc]] W fun e w' => (∃ r, e = .returned (.bool r) ∧ (r = true ↔ c = f)) ∧ Below W.heap.size W w') := fun W hW => RSame2_any c f _ _ W (hrt.sx.below hW) (hrt'.sx.below hW)
                                  have hzw : w.heap.size + 1 < wr.heap.size := by have := HW3.out.size; omega
                                  have hzw0 : w.heap.size < wr.heap.size := by omega
                                  have H0 := Lib.hid (And.intro a7 (And.intro b7 (And.intro c0 (And.intro c1 (And.intro c2' (And.intro d0 (And.intro d1 d2')))))))
                                  have HXY := Lib.hid (And.intro hcc hff)
                                  clear hks hks' hrt hrt' hcc hff c2 d2 hxa hya hbw
                                  go_wp2
                                  clear a0 a1 a2 a3 a4 a5 a6 a7 b0 b1 b2 b3 b4 b5 b6 b7 c0 c1 c2' d0 d1 d2'
                                  go_region_held3 (fun w' => w'.cell? ⟨w.heap.size, 7, none⟩ = some (.slice (some ⟨g, o, none⟩) x.c.terms.length x.tc) ∧ w'.cell? ⟨w.heap.size + 1, 7, none⟩ = some (.slice (some ⟨g', o', none⟩) y.c.terms.length y.tc) ∧ w'.cell? ⟨g, o + k3 * 3, none⟩ = some (.int .i8 c.kind) ∧ w'.cell? ⟨g, o + k3 * 3 + 1, none⟩ = some (.string (bytesL c.text)) ∧ w'.cell? ⟨g, o + k3 * 3 + 2, none⟩ = some (.slice ca c.kids.length cc) ∧ w'.cell? ⟨g', o' + k3 * 3, none⟩ = some (.int .i8 f.kind) ∧ w'.cell? ⟨g', o' + k3 * 3 + 1, none⟩ = some (.string (bytesL f.text)) ∧ w'.cell? ⟨g', o' + k3 * 3 + 2, none⟩ = some (.slice da f.kids.length dc))
                                    (first | exact H0.out | exact ⟨(hc1 _ _ hzw0).trans H0.out.1, (hc1 _ _ hzw).trans H0.out.2.1, (hc1 _ _ hg).trans H0.out.2.2.1, (hc1 _ _ hg).trans H0.out.2.2.2.1, (hc1 _ _ hg).trans H0.out.2.2.2.2.1, (hc1 _ _ hg').trans H0.out.2.2.2.2.2.1, (hc1 _ _ hg').trans H0.out.2.2.2.2.2.2.1, (hc1 _ _ hg').trans H0.out.2.2.2.2.2.2.2⟩ | go_keep)
                                    (first | (go_at_call 12; refine (HCALL.out _ (by first | exact (Below.refl _ _).drew | exact Below.refl _ _)).mono ?_; rintro e w2 ⟨⟨r, rfl, hr⟩, hb2⟩; have HR := Lib.hid hr; clear hr; obtain ⟨hc1, hf1⟩ := bcell hb2))
                                  have hw2 : Below wr.heap.size wr w2 := (Below.refl _ wr).drew.trans (hb2.mono (Nat.le_refl _))
                                  have HB3 : Hid (Below W2.heap.size W2 w2) := HW3.out.trans (hw2.mono HW3.out.size)
                                  clear hb2 hw2 hc1 hf1
                                  cases r with
                                  | true =>
                                    have HE2 : Hid (x.c.terms.take (k3 + 1) = y.c.terms.take (k3 + 1)) := by
                                      show _ = _
                                      rw [take_snoc HXY.out.1, take_snoc HXY.out.2, HE3.out, HR.out.1 rfl]
                                    go_wp2_with fail
                                    go_roundw
                                    case rel => exact ⟨k3 + 1, by omega, by go_num, HB3.out, HE2.out⟩
                                    case measure => simp [intOf]; omega
                                  | false =>
                                    have HN : Hid (¬ x.c = y.c) := fun h => by
                                      have h1 := HXY.out.1
                                      rw [h, HXY.out.2] at h1
                                      have := HR.out.2 (Option.some.inj h1).symm
                                      cases this
                                    go_wp2
                                    go_ret
                                    exact ⟨⟨false, rfl, fun h => (by cases h), fun h => absurd h HN.out⟩, HB2.out.trans ((HB3.out).mono HB2.out.size)⟩
                                · have hk : k3 = x.c.terms.length := by omega
                                  have HT3 : Hid (x.c.terms = y.c.terms) := by have := HE3.out; rw [hk, List.take_length, HN3.out, List.take_length] at this; exact this
                                  subst hk
                                  go_wp2
                                  go_ret
                                  exact ⟨⟨true, rfl, fun _ => HEQ.out HT0.out HT1.out HT2.out HT3.out, fun _ => rfl⟩, HB2.out.trans (HW3.out.mono HB2.out.size)⟩
                · have HN : Hid (¬ x.c = y.c) := fun h => h7 (by rw [h])
                  have e7 := ne_true (x := (x.c.terms.length : Int)) (y := (y.c.terms.length : Int)) (by omega)
                  clear h7
                  go_enter Tryz.func10, Tryz.ntmps10
                  go_wp2
                  rw [← HL.out]
                  go_ret
                  exact ⟨⟨false, rfl, fun h => (by cases h), fun h => absurd h HN.out⟩, HB2.out⟩
              · have HN : Hid (¬ x.c = y.c) := fun h => h6 (by rw [h])
                have e6 := ne_true (x := (x.c.params.length : Int)) (y := (y.c.params.length : Int)) (by omega)
                clear h6
                go_enter Tryz.func10, Tryz.ntmps10
                go_wp2
                rw [← HL.out]
                go_ret
                exact ⟨⟨false, rfl, fun h => (by cases h), fun h => absurd h HN.out⟩, HB2.out⟩
            · have HN : Hid (¬ x.c = y.c) := fun h => h5 (by rw [h])
              have e5 := ne_true (x := (x.c.args.length : Int)) (y := (y.c.args.length : Int)) (by omega)
              clear h5
              go_enter Tryz.func10, Tryz.ntmps10
              go_wp2
              rw [← HL.out]
              go_ret
              exact ⟨⟨false, rfl, fun h => (by cases h), fun h => absurd h HN.out⟩, HB2.out⟩
          · have HN : Hid (¬ x.c = y.c) := fun h => h4 (by rw [h])
            have e4 := ne_true (x := (x.c.l.length : Int)) (y := (y.c.l.length : Int)) (by omega)
            clear h4
            go_enter Tryz.func10, Tryz.ntmps10
            go_wp2
            rw [← HL.out]
            go_ret
            exact ⟨⟨false, rfl, fun h => (by cases h), fun h => absurd h HN.out⟩, HB2.out⟩
        · have HN : Hid (¬ x.c = y.c) := fun h => h3 (by rw [h])
          have e3 := sl_no h3
          clear h3
          go_enter Tryz.func10, Tryz.ntmps10
          go_wp2
          rw [← HL.out]
          go_ret
          exact ⟨⟨false, rfl, fun h => (by cases h), fun h => absurd h HN.out⟩, HB2.out⟩
      · have HN : Hid (¬ x.c = y.c) := fun h => h2 (by rw [h])
        have e2 := ne_true h2
        clear h2
        go_enter Tryz.func10, Tryz.ntmps10
        go_wp2
        rw [← HL.out]
        go_ret
        exact ⟨⟨false, rfl, fun h => (by cases h), fun h => absurd h HN.out⟩, HB2.out⟩
    · have HN : Hid (¬ x.c = y.c) := fun h => h1 (by rw [h])
      have e1 := sl_no h1
      clear h1
      go_enter Tryz.func10, Tryz.ntmps10
      go_wp2
      rw [← HL.out]
      go_ret
      exact ⟨⟨false, rfl, fun h => (by cases h), fun h => absurd h HN.out⟩, HB2.out⟩
  · have HN : Hid (¬ x.c = y.c) := fun h => h0 (by rw [h])
    have e0 := ne_true h0
    clear h0
    go_enter Tryz.func10, Tryz.ntmps10
    go_wp2
    rw [← HL.out]
    go_ret
    exact ⟨⟨false, rfl, fun h => (by cases h), fun h => absurd h HN.out⟩, HB2.out⟩
end Go.Proofs.YtodonngnigbpaaaGreatDoor
