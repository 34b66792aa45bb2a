/- CommandOnce: unlike commands have unlike texts, and unlike lists. -/
import Derived.Test.YtodonngnigbpaaaGreatDoorCmLt
namespace Go.Proofs.YtodonngnigbpaaaGreatDoor
open Go.RowKit
set_option linter.unusedVariables false
theorem text_inj {s t : Tree} (hs : mayT s = true) (ht : mayT t = true) (h : textT s = textT t) : s = t := by
  have h1 := read_text hs
  rw [h, read_text ht] at h1
  exact (congrArg RdR.t h1).symm
set_option maxRecDepth 100000 in
set_option maxHeartbeats 4000000 in
theorem CommandOnce_w (w : World) (x : CmdV) (hx : CmdS w x) (hFx : Fine x.c) (y : CmdV) (hy : CmdS w y) (hFy : Fine y.c) (hG : GH w) :
    Calls Tryz.prog 4 #[.agg #[.int .i8 x.c.kind, .string (bytesL x.c.name), .int .i64 x.c.n, .slice x.la x.c.l.length x.lc, .slice x.aa x.c.args.length x.ac, .slice x.pa x.c.params.length x.pc, .string (bytesL x.c.res), .slice x.ta x.c.terms.length x.tc], .agg #[.int .i8 y.c.kind, .string (bytesL y.c.name), .int .i64 y.c.n, .slice y.la y.c.l.length y.lc, .slice y.aa y.c.args.length y.ac, .slice y.pa y.c.params.length y.pc, .string (bytesL y.c.res), .slice y.ta y.c.terms.length y.tc]] w fun e w' => e = .returned (.bool true) ∧ Below w.heap.size w w' := by
  obtain ⟨W2, hW2⟩ : ∃ W2, W2 = (w.alloc (.cells #[.int .i8 x.c.kind, .string (bytesL x.c.name), .int .i64 x.c.n, .slice x.la x.c.l.length x.lc, .slice x.aa x.c.args.length x.ac, .slice x.pa x.c.params.length x.pc, .string (bytesL x.c.res), .slice x.ta x.c.terms.length x.tc] 28)).alloc (.cells #[.int .i8 y.c.kind, .string (bytesL y.c.name), .int .i64 y.c.n, .slice y.la y.c.l.length y.lc, .slice y.aa y.c.args.length y.ac, .slice y.pa y.c.params.length y.pc, .string (bytesL y.c.res), .slice y.ta y.c.terms.length y.tc] 28) := ⟨_, rfl⟩
  obtain ⟨h1, h2, hb2⟩ := two_new w (.cells #[.int .i8 x.c.kind, .string (bytesL x.c.name), .int .i64 x.c.n, .slice x.la x.c.l.length x.lc, .slice x.aa x.c.args.length x.ac, .slice x.pa x.c.params.length x.pc, .string (bytesL x.c.res), .slice x.ta x.c.terms.length x.tc] 28) (.cells #[.int .i8 y.c.kind, .string (bytesL y.c.name), .int .i64 y.c.n, .slice y.la y.c.l.length y.lc, .slice y.aa y.c.args.length y.ac, .slice y.pa y.c.params.length y.pc, .string (bytesL y.c.res), .slice y.ta y.c.terms.length y.tc] 28)
  rw [← hW2] at h1 h2 hb2
  have hsz : W2.heap.size = w.heap.size + 2 := by rw [hW2]; simp
  have HL := Lib.hid hW2
  have HX : Hid (∀ W, Below W2.heap.size W2 W → Box8 W w.heap.size x ∧ Box8 W (w.heap.size + 1) y) := fun W hW => ⟨(hW.block _ (by omega)).trans h1, (hW.block _ (by omega)).trans h2⟩
  have HB2 := Lib.hid hb2
  have hGW : ∀ W, Below W2.heap.size W2 W → Below w.heap.size w W := fun W hW => hb2.trans (hW.mono hb2.size)
  have HWk : Hid (∀ W, Below W2.heap.size W2 W → Calls Tryz.prog 6 #[] W fun e w' => e = .returned (.bool true) ∧ Below W2.heap.size W2 w') := fun W hW => by
    refine (wakes_any W (hG.below (hGW W hW))).mono ?_
    rintro e w' ⟨rfl, hb⟩
    exact ⟨rfl, hW.trans (hb.mono hW.size)⟩
  have HGr : Hid (∀ (z : CmdV), CmdS w z → Fine z.c → ∀ W, Below W2.heap.size W2 W → Calls Tryz.prog 5 #[.agg #[.int .i8 z.c.kind, .string (bytesL z.c.name), .int .i64 z.c.n, .slice z.la z.c.l.length z.lc, .slice z.aa z.c.args.length z.ac, .slice z.pa z.c.params.length z.pc, .string (bytesL z.c.res), .slice z.ta z.c.terms.length z.tc]] W fun e w' => (∃ r, e = .returned (.bool r) ∧ (r = false → Small z.c)) ∧ Below W2.heap.size W2 w') := fun z hz hFz W hW => by
    refine (great_any z W (hz.below (hGW W hW)) hFz).mono ?_
    rintro e w' ⟨h, hb⟩
    exact ⟨h, hW.trans (hb.mono hW.size)⟩
  have HTx : Hid (∀ (z : CmdV), CmdS w z → Fine z.c → Small z.c → ∀ W, Below W2.heap.size W2 W → Calls Tryz.prog 7 #[.agg #[.int .i8 z.c.kind, .string (bytesL z.c.name), .int .i64 z.c.n, .slice z.la z.c.l.length z.lc, .slice z.aa z.c.args.length z.ac, .slice z.pa z.c.params.length z.pc, .string (bytesL z.c.res), .slice z.ta z.c.terms.length z.tc]] W fun e w' => (∃ (l : List UInt8) (k : Nat), e = .returned (.tuple #[.string (bytesL l), .int .i64 k]) ∧ (k = 0 → mayT (listT z.c) = true ∧ parse0 (listT z.c) = some z.c ∧ l = textT (listT z.c))) ∧ Below W2.heap.size W2 w') := fun z hz hFz hS W hW => by
    have hb := hGW W hW
    refine (ctext_two False z W (hG.below hb) (hz.below hb) (list_ok z W (hG.below hb) (hz.below hb) (hFz.fair hS)) (rows_list hFz hS)).mono ?_
    rintro e w' ⟨⟨l, k, rfl, q1, _, _⟩, hb⟩
    exact ⟨⟨l, k, rfl, fun h => ⟨(q1 h).1, (q1 h).2.1, (q1 h).2.2.1⟩⟩, hW.trans (hb.mono hW.size)⟩
  have HSx : Hid (∀ (z : CmdV), CmdS w z → Fine z.c → Small z.c → ∀ W, Below W2.heap.size W2 W → Calls Tryz.prog 11 #[.agg #[.int .i8 z.c.kind, .string (bytesL z.c.name), .int .i64 z.c.n, .slice z.la z.c.l.length z.lc, .slice z.aa z.c.args.length z.ac, .slice z.pa z.c.params.length z.pc, .string (bytesL z.c.res), .slice z.ta z.c.terms.length z.tc]] W fun e w' => (∃ (k0 : Int) (s0 : ByteArray) (a : Option Addr) (n0 cc k : Nat), e = .returned (.tuple #[.agg #[.int .i8 k0, .string s0, .slice a n0 cc], .int .i64 k]) ∧ (k = 0 → mayT (listT z.c) = true ∧ parse0 (listT z.c) = some z.c ∧ Sx w' (listT z.c) (.agg #[.int .i8 k0, .string s0, .slice a n0 cc]))) ∧ Below W2.heap.size W2 w' ∧ Below W.heap.size W w') := fun z hz hFz hS W hW => by
    have hb := hGW W hW
    refine (csexp_any z W (hG.below hb) (hz.below hb) (list_ok z W (hG.below hb) (hz.below hb) (hFz.fair hS)) (rows_list hFz hS)).mono ?_
    rintro e w' ⟨⟨k0, s0, a, n0, cc, k, rfl, q⟩, hb⟩
    exact ⟨⟨k0, s0, a, n0, cc, k, rfl, fun h => ⟨(q h).1, (q h).2.1, (q h).2.2.sx⟩⟩, hW.trans (hb.mono hW.size), hb⟩
  have HS8 : Hid (∀ W, Below W2.heap.size W2 W → Calls Tryz.prog 10 #[.agg #[.int .i8 x.c.kind, .string (bytesL x.c.name), .int .i64 x.c.n, .slice x.la x.c.l.length x.lc, .slice x.aa x.c.args.length x.ac, .slice x.pa x.c.params.length x.pc, .string (bytesL x.c.res), .slice x.ta x.c.terms.length x.tc], .agg #[.int .i8 y.c.kind, .string (bytesL y.c.name), .int .i64 y.c.n, .slice y.la y.c.l.length y.lc, .slice y.aa y.c.args.length y.ac, .slice y.pa y.c.params.length y.pc, .string (bytesL y.c.res), .slice y.ta y.c.terms.length y.tc]] W fun e w' => (∃ r, e = .returned (.bool r) ∧ (r = true ↔ x.c = y.c)) ∧ Below W2.heap.size W2 w' ∧ Below W.heap.size W w') := fun W hW => by
    have hb := hGW W hW
    refine (RSame8 x y W (hx.below hb) (hy.below hb)).mono ?_
    rintro e w' ⟨h, hb⟩
    exact ⟨h, hW.trans (hb.mono hW.size), hb⟩
  have HxS := Lib.hid hx
  have HyS := Lib.hid hy
  have HxF := Lib.hid hFx
  have HyF := Lib.hid hFy
  obtain ⟨a0, a1, a2, a3, a4, a5, a6, a7⟩ := (HX.out _ (Below.refl _ _)).1.cells
  obtain ⟨b0, b1, b2, b3, b4, b5, b6, b7⟩ := (HX.out _ (Below.refl _ _)).2.cells
  clear hx hy hFx hFy hG hW2 h1 h2 hb2 hGW
  go_enter Tryz.func4, Tryz.ntmps4
  go_wp2_with fail
  rw [← HL.out]
  clear HL
  refine (HGr.out x HxS.out HxF.out _ (Below.refl _ _)).mono ?_
  rintro e w3 ⟨⟨r, rfl, hr⟩, hb3⟩
  have HR := Lib.hid hr
  have HB3 := Lib.hid hb3
  clear a0 a1 a2 a3 a4 a5 a6 a7 b0 b1 b2 b3 b4 b5 b6 b7 hr hb3
  cases r with
  | true =>
    go_wp2_with fail
    refine (HWk.out _ HB3.out).mono ?_
    rintro e w4 ⟨rfl, hb4⟩
    have HB4 := Lib.hid hb4
    clear hb4
    go_wp2
    go_ret
    exact ⟨rfl, HB2.out.trans (HB4.out.mono HB2.out.size)⟩
  | false =>
    have HSm : Hid (Small x.c) := by first | exact HR.out rfl | exact HR.out trivial
    obtain ⟨a0, a1, a2, a3, a4, a5, a6, a7⟩ := (HX.out _ HB3.out).1.cells
    obtain ⟨b0, b1, b2, b3, b4, b5, b6, b7⟩ := (HX.out _ HB3.out).2.cells
    go_wp2_with fail
    refine (HGr.out y HyS.out HyF.out _ HB3.out).mono ?_
    rintro e w4 ⟨⟨r, rfl, hr⟩, hb4⟩
    have HR2 := Lib.hid hr
    have HB4 := Lib.hid hb4
    clear a0 a1 a2 a3 a4 a5 a6 a7 b0 b1 b2 b3 b4 b5 b6 b7 hr hb4
    cases r with
    | true =>
      go_wp2_with fail
      refine (HWk.out _ HB4.out).mono ?_
      rintro e w5 ⟨rfl, hb5⟩
      have HB5 := Lib.hid hb5
      clear hb5
      go_wp2
      go_ret
      exact ⟨rfl, HB2.out.trans (HB5.out.mono HB2.out.size)⟩
    | false =>
      have HSn : Hid (Small y.c) := by first | exact HR2.out rfl | exact HR2.out trivial
      obtain ⟨a0, a1, a2, a3, a4, a5, a6, a7⟩ := (HX.out _ HB4.out).1.cells
      obtain ⟨b0, b1, b2, b3, b4, b5, b6, b7⟩ := (HX.out _ HB4.out).2.cells
      go_wp2_with fail
      refine (HTx.out x HxS.out HxF.out HSm.out _ HB4.out).mono ?_
      rintro e w5 ⟨⟨la, ka, rfl, hta⟩, hb5⟩
      have HTA := Lib.hid hta
      have HB5 := Lib.hid hb5
      clear a0 a1 a2 a3 a4 a5 a6 a7 b0 b1 b2 b3 b4 b5 b6 b7 hta hb5
      obtain ⟨a0, a1, a2, a3, a4, a5, a6, a7⟩ := (HX.out _ HB5.out).1.cells
      obtain ⟨b0, b1, b2, b3, b4, b5, b6, b7⟩ := (HX.out _ HB5.out).2.cells
      go_wp2_with fail
      refine (HTx.out y HyS.out HyF.out HSn.out _ HB5.out).mono ?_
      rintro e w6 ⟨⟨lb, kb, rfl, htb⟩, hb6⟩
      have HTB := Lib.hid htb
      have HB6 := Lib.hid hb6
      clear a0 a1 a2 a3 a4 a5 a6 a7 b0 b1 b2 b3 b4 b5 b6 b7 htb hb6
      obtain ⟨a0, a1, a2, a3, a4, a5, a6, a7⟩ := (HX.out _ HB6.out).1.cells
      obtain ⟨b0, b1, b2, b3, b4, b5, b6, b7⟩ := (HX.out _ HB6.out).2.cells
      go_wp2_with fail
      refine (HSx.out x HxS.out HxF.out HSm.out _ HB6.out).mono ?_
      rintro e w7 ⟨⟨p0, ps, pa, pn, pc, ga, rfl, hsa⟩, hb7, _⟩
      have HSA := Lib.hid hsa
      have HB7 := Lib.hid hb7
      have hlt7 : w.heap.size + 1 < w7.heap.size := by have := hb7.size; omega
      have hlt7' : w.heap.size < w7.heap.size := by omega
      clear a0 a1 a2 a3 a4 a5 a6 a7 b0 b1 b2 b3 b4 b5 b6 b7 hsa hb7
      obtain ⟨a0, a1, a2, a3, a4, a5, a6, a7⟩ := (HX.out _ HB7.out).1.cells
      obtain ⟨b0, b1, b2, b3, b4, b5, b6, b7⟩ := (HX.out _ HB7.out).2.cells
      have HB7a : Hid (Below W2.heap.size W2 (w7.alloc (.cells #[.int .i8 p0, .string ps, .slice pa pn pc] 35))) := HB7.out.alloc HB7.out.size _
      go_wp2_with fail
      refine (HSx.out y HyS.out HyF.out HSn.out _ HB7a.out).mono ?_
      rintro e w8 ⟨⟨q0, qs, qa, qn, qc, gb, rfl, hsb⟩, hb8, hb78⟩
      have HSB := Lib.hid hsb
      have HB8 := Lib.hid hb8
      have HB78 := Lib.hid hb78
      have hP8 : w8.heap[w7.heap.size]? = some (.cells #[.int .i8 p0, .string ps, .slice pa pn pc] 35 (0, 0)) := (hb78.block _ (by simp)).trans (heap_alloc_new w7 _)
      have HP8 := Lib.hid hP8
      have hlt8 : w.heap.size + 1 < w8.heap.size := by have := hb8.size; omega
      have hlt8' : w.heap.size < w8.heap.size := by omega
      have hlt78 : w7.heap.size < w8.heap.size := by have := hb78.size; simp at this; omega
      clear a0 a1 a2 a3 a4 a5 a6 a7 b0 b1 b2 b3 b4 b5 b6 b7 hsb hb8 hb78 hP8
      obtain ⟨a0, a1, a2, a3, a4, a5, a6, a7⟩ := (HX.out _ HB8.out).1.cells
      obtain ⟨b0, b1, b2, b3, b4, b5, b6, b7⟩ := (HX.out _ HB8.out).2.cells
      have HB8a : Hid (Below W2.heap.size W2 (w8.alloc (.cells #[.int .i8 q0, .string qs, .slice qa qn qc] 35))) := HB8.out.alloc HB8.out.size _
      by_cases hka : ka = 0
      rotate_left
      · have n0 := ne_true (x := (ka : Int)) (y := 0) (by omega)
        clear hka 
        go_wp2_with fail
        refine (HWk.out _ HB8a.out).mono ?_
        rintro e w9 ⟨rfl, hb9⟩
        have HB9 := Lib.hid hb9
        clear hb9
        go_wp2
        go_ret
        exact ⟨rfl, HB2.out.trans (HB9.out.mono HB2.out.size)⟩
      by_cases hkb : kb = 0
      rotate_left
      · have n0 := ne_true (x := (kb : Int)) (y := 0) (by omega)
        have nka := ne_false (x := (ka : Int)) (y := 0) (by omega)
        clear hkb hka
        go_wp2_with fail
        refine (HWk.out _ HB8a.out).mono ?_
        rintro e w9 ⟨rfl, hb9⟩
        have HB9 := Lib.hid hb9
        clear hb9
        go_wp2
        go_ret
        exact ⟨rfl, HB2.out.trans (HB9.out.mono HB2.out.size)⟩
      by_cases hga : ga = 0
      rotate_left
      · have n0 := ne_true (x := (ga : Int)) (y := 0) (by omega)
        have nka := ne_false (x := (ka : Int)) (y := 0) (by omega)
        have nkb := ne_false (x := (kb : Int)) (y := 0) (by omega)
        clear hga hka hkb
        go_wp2_with fail
        refine (HWk.out _ HB8a.out).mono ?_
        rintro e w9 ⟨rfl, hb9⟩
        have HB9 := Lib.hid hb9
        clear hb9
        go_wp2
        go_ret
        exact ⟨rfl, HB2.out.trans (HB9.out.mono HB2.out.size)⟩
      by_cases hgb : gb = 0
      rotate_left
      · have n0 := ne_true (x := (gb : Int)) (y := 0) (by omega)
        have nka := ne_false (x := (ka : Int)) (y := 0) (by omega)
        have nkb := ne_false (x := (kb : Int)) (y := 0) (by omega)
        have nga := ne_false (x := (ga : Int)) (y := 0) (by omega)
        clear hgb hka hkb hga
        go_wp2_with fail
        refine (HWk.out _ HB8a.out).mono ?_
        rintro e w9 ⟨rfl, hb9⟩
        have HB9 := Lib.hid hb9
        clear hb9
        go_wp2
        go_ret
        exact ⟨rfl, HB2.out.trans (HB9.out.mono HB2.out.size)⟩
      subst hka hkb hga hgb
      obtain ⟨hma, hpa, hla⟩ := HTA.out rfl
      obtain ⟨hmb, hpb, hlb⟩ := HTB.out rfl
      subst hla hlb
      have HSA2 : Hid (Sx w7 (listT x.c) (.agg #[.int .i8 p0, .string ps, .slice pa pn pc])) := (HSA.out rfl).2.2
      have HSB2 : Hid (Sx w8 (listT y.c) (.agg #[.int .i8 q0, .string qs, .slice qa qn qc])) := (HSB.out rfl).2.2
      have HC9 : Hid (∀ W, Below (w8.heap.size + 1) (w8.alloc (.cells #[.int .i8 q0, .string qs, .slice qa qn qc] 35)) W → (W.cell? ⟨w7.heap.size, 0, none⟩ = some (.int .i8 p0) ∧ W.cell? ⟨w7.heap.size, 1, none⟩ = some (.string ps) ∧ W.cell? ⟨w7.heap.size, 2, none⟩ = some (.slice pa pn pc)) ∧ (W.cell? ⟨w8.heap.size, 0, none⟩ = some (.int .i8 q0) ∧ W.cell? ⟨w8.heap.size, 1, none⟩ = some (.string qs) ∧ W.cell? ⟨w8.heap.size, 2, none⟩ = some (.slice qa qn qc))) := fun W hW => by
        have f1 := (hW.block w7.heap.size (by omega)).trans ((Below.heap_alloc _ _ _ hlt78).trans HP8.out)
        have f2 := (hW.block w8.heap.size (by omega)).trans (heap_alloc_new w8 _)
        obtain ⟨c0, c1, c2, _⟩ := cells3b f1
        obtain ⟨d0, d1, d2, _⟩ := cells3b f2
        exact ⟨⟨c0, c1, c2⟩, d0, d1, d2⟩
      have HRS : Hid (∀ W, Below (w8.heap.size + 1) (w8.alloc (.cells #[.int .i8 q0, .string qs, .slice qa qn qc] 35)) W → Calls Tryz.prog 12 #[.agg #[.int .i8 p0, .string ps, .slice pa pn pc], .agg #[.int .i8 q0, .string qs, .slice qa qn qc]] W fun e w' => (∃ r, e = .returned (.bool r) ∧ (r = true ↔ listT x.c = listT y.c)) ∧ Below W2.heap.size W2 w') := fun W hW => by
        have hb8W : Below w8.heap.size w8 W := ((Below.refl _ _).alloc (Nat.le_refl _) _).trans (hW.mono (by omega))
        have hb7W : Below w7.heap.size w7 W := (((Below.refl _ _).alloc (Nat.le_refl _) _).trans (HB78.out.mono (by simp))).trans (hb8W.mono (by omega))
        refine (RSame2_any _ _ _ _ W (HSA2.out.below hb7W) (HSB2.out.below hb8W)).mono ?_
        rintro e w' ⟨h, hb⟩
        have hbW := HB8.out.trans (hb8W.mono HB8.out.size)
        exact ⟨h, hbW.trans (hb.mono hbW.size)⟩
      by_cases hxy : x.c = y.c
      · have s1 := sl_yes (s := textT (listT x.c)) (t := textT (listT y.c)) (by rw [hxy])
        have HXY := Lib.hid hxy
        clear hxy hma hpa hmb hpb
        go_wp2_with fail
        refine (HS8.out _ HB8a.out).mono ?_
        rintro e w9 ⟨⟨r, rfl, hr⟩, hb9, hb89⟩
        rw [World.size_alloc] at hb89
        have hrv : r = true := by
          exact hr.2 HXY.out
        subst hrv
        have HB9 := Lib.hid hb9
        have HB89 := Lib.hid hb89
        clear a0 a1 a2 a3 a4 a5 a6 a7 b0 b1 b2 b3 b4 b5 b6 b7 hr hb9 hb89
        obtain ⟨⟨c0, c1, c2⟩, d0, d1, d2⟩ := HC9.out _ HB89.out
        go_wp2_with fail
        refine (HRS.out _ HB89.out).mono ?_
        rintro e w10 ⟨⟨r, rfl, hr⟩, hb10⟩
        have hrv : r = true := by
          exact hr.2 (by rw [HXY.out])
        subst hrv
        have HB10 := Lib.hid hb10
        clear c0 c1 c2 d0 d1 d2 hr hb10
        go_wp2_with fail
        refine (HWk.out _ HB10.out).mono ?_
        rintro e w11 ⟨rfl, hb11⟩
        have HB11 := Lib.hid hb11
        clear hb11
        go_wp2
        go_ret
        exact ⟨rfl, HB2.out.trans (HB11.out.mono HB2.out.size)⟩
      · have hne : ¬ listT x.c = listT y.c := fun h => hxy (by rw [h, hpb] at hpa; exact (Option.some.inj hpa).symm)
        have s1 := sl_no (s := textT (listT x.c)) (t := textT (listT y.c)) (fun h => hne (text_inj hma hmb h))
        have HXY := Lib.hid hxy
        have HNE := Lib.hid hne
        clear hxy hma hpa hmb hpb hne
        go_wp2_with fail
        refine (HS8.out _ HB8a.out).mono ?_
        rintro e w9 ⟨⟨r, rfl, hr⟩, hb9, hb89⟩
        rw [World.size_alloc] at hb89
        have hrv : r = false := by
          cases r with
          | false => rfl
          | true => exact absurd (hr.1 rfl) HXY.out
        subst hrv
        have HB9 := Lib.hid hb9
        have HB89 := Lib.hid hb89
        clear a0 a1 a2 a3 a4 a5 a6 a7 b0 b1 b2 b3 b4 b5 b6 b7 hr hb9 hb89
        obtain ⟨⟨c0, c1, c2⟩, d0, d1, d2⟩ := HC9.out _ HB89.out
        go_wp2_with fail
        refine (HRS.out _ HB89.out).mono ?_
        rintro e w10 ⟨⟨r, rfl, hr⟩, hb10⟩
        have hrv : r = false := by
          cases r with
          | false => rfl
          | true => exact absurd (hr.1 rfl) HNE.out
        subst hrv
        have HB10 := Lib.hid hb10
        clear c0 c1 c2 d0 d1 d2 hr hb10
        go_wp2_with fail
        refine (HWk.out _ HB10.out).mono ?_
        rintro e w11 ⟨rfl, hb11⟩
        have HB11 := Lib.hid hb11
        clear hb11
        go_wp2
        go_ret
        exact ⟨rfl, HB2.out.trans (HB11.out.mono HB2.out.size)⟩
end Go.Proofs.YtodonngnigbpaaaGreatDoor
