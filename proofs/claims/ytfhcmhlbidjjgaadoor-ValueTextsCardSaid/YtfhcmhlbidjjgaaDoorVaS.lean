/- Package value's With, of a plain world of one function of one Int to Int. -/
import Derived.Test.YtfhcmhlbidjjgaaDoorVaO
import Derived.Deep.AppendLies
namespace Go.Proofs.YtfhcmhlbidjjgaaDoor
open Go.RowKit
set_option linter.unusedVariables false
theorem info_rw : (Tryd.prog.info? 75).map (fun i => (i.zero, i.size, i.bytes)) = some (some (.agg #[.int .i64 0, .int .i64 0, .int .i64 0, .int .i64 0]), 4, 32) := by kernel_rfl
def WiPost (w : World) (v u : Int) (e : Ending) (w' : World) : Prop := ∃ sa sc g c ra rc, e = .returned (.tuple #[.agg #[.slice sa 0 sc, .slice (some ⟨g, 0, none⟩) 1 c], .int .i64 0]) ∧ WrR w' g [⟨v, 0, 0, u⟩] ra rc ∧ Below w.heap.size w w'
theorem belowG {A B : World} {o : Obj} (h : (A.alloc o).drew.grownBy B (Value.slice none 0 0).ownBlock) : Below A.heap.size A B :=
  ⟨h.os, h.tape, h.output, Nat.le_trans (by show A.heap.size ≤ (A.alloc o).heap.size; simp) h.size, fun i hi => (h.block i (by show i < (A.alloc o).heap.size; simp; omega) (by simp [Value.ownBlock])).trans (Below.heap_alloc _ _ _ hi)⟩
theorem with_end {w w9 : World} {g r rc zb base : Nat} {v u : Int} {x y v0 v1 : Value} (hB : Below w.heap.size w w9) (hz : w9.heap[zb]? = some (.cells #[x, y] 44 (0, 0))) (hF : FvR w9 g (.slice none 0 0))
    (hown : w9.ownsRow base 75 4 (.slice (some ⟨r, 0, none⟩) (0 + 1) rc) (0 + 1) ([] ++ [.int .i64 v, .int .i64 0, .int .i64 0, .int .i64 u])) (hgz : g ≠ zb) (hrg : r ≠ g) (hrz : r ≠ zb) (hzw : w.heap.size ≤ zb) (hgw : w.heap.size ≤ g) (hv : mayB v = true) (hu : mayB u = true) :
    (((w9.setCell ⟨g, 0, none⟩ (.slice (some ⟨r, 0, none⟩) (0 + 1) rc)).setCell ⟨zb, 0, none⟩ v0).setCell ⟨zb, 1, none⟩ v1).heap[zb]? = some (.cells #[v0, v1] 44 (0, 0)) ∧
    WrR (((w9.setCell ⟨g, 0, none⟩ (.slice (some ⟨r, 0, none⟩) (0 + 1) rc)).setCell ⟨zb, 0, none⟩ v0).setCell ⟨zb, 1, none⟩ v1) g [⟨v, 0, 0, u⟩] (some ⟨r, 0, none⟩) rc ∧
    Below w.heap.size w (((w9.setCell ⟨g, 0, none⟩ (.slice (some ⟨r, 0, none⟩) (0 + 1) rc)).setCell ⟨zb, 0, none⟩ v0).setCell ⟨zb, 1, none⟩ v1) := by
  refine ⟨set2 ((Below.heap_setCell _ _ _ _ (Ne.symm hgz)).trans hz), ⟨?_, ?_⟩, ?_⟩
  · obtain ⟨cs, h, h2⟩ := FvR.set (u := .slice (some ⟨r, 0, none⟩) 1 rc) hF
    exact ⟨cs, (oth2 hgz).trans h, h2⟩
  · rcases hown.2 with ⟨h, _⟩ | ⟨r', cap, cur, hvv, hb, hg, h1, h2, h3, h4⟩
    · simp at h
    · simp only [Value.slice.injEq, Option.some.injEq, Addr.mk.injEq, and_true, true_and] at hvv
      obtain ⟨rfl, rfl⟩ := hvv
      have hr : (((w9.setCell ⟨g, 0, none⟩ (.slice (some ⟨r, 0, none⟩) (0 + 1) rc)).setCell ⟨zb, 0, none⟩ v0).setCell ⟨zb, 1, none⟩ v1).heap[r]? = some (.cells cur 75 (0, 0)) := (oth2 hrz).trans ((Below.heap_setCell _ _ _ _ hrg).trans hg)
      refine ⟨fun _ => ⟨r, 0, rfl, (Array.getElem?_eq_some_iff.1 hr).1, fun i z hz => ?_⟩, h1, h2, by simp, fun q hq => ?_, fun k q hq => ?_⟩
      · rw [Nat.zero_add i, cell_of_row _ _ i _ _ _ hr]
        have hi : i < 4 := (List.getElem?_eq_some_iff.1 hz).1
        have e : (cur.toList.take 4)[i]? = some z := by rw [show cur.toList.take 4 = _ from h4]; exact hz
        rw [List.getElem?_take, if_pos hi] at e
        simpa using e
      · simp only [List.mem_singleton] at hq
        subst hq
        exact ⟨hv, rfl, rfl, hu⟩
      · have hk : k = 0 := by have := (List.getElem?_eq_some_iff.1 hq).1; simp at this; exact this
        subst hk
        simp
  · exact ((hB.setCell (p := ⟨g, 0, none⟩) hgw _).setCell (p := ⟨zb, 0, none⟩) hzw _).setCell (p := ⟨zb, 1, none⟩) hzw _
set_option maxRecDepth 100000 in
set_option maxHeartbeats 4000000 in
theorem With_one (m fb ab : Nat) (v u : Int) (sa : Option Addr) (sc fc : Nat) (w : World) (hG : GS w) (hS : OneR w m) (hW : WrR w fb [] none 0) (hfc : 1 ≤ fc) (hA : AbR w ab v) (hv : mayB v = true) (hu : mayB u = true) :
    Calls Tryd.prog 8 #[.agg #[.slice none 0 0, .slice (some ⟨m, 0, none⟩) 1 1, .slice none 0 0], .agg #[.slice sa 0 sc, .slice (some ⟨fb, 0, none⟩) 1 fc], .int .i64 0, .slice (some ⟨ab, 0, none⟩) 1 1, .int .i64 u] w (WiPost w v u) := by
  obtain ⟨W1, hW1⟩ : ∃ W1, W1 = ((w.alloc (.cells #[.slice none 0 0, .slice (some ⟨m, 0, none⟩) 1 1, .slice none 0 0] 26)).alloc (.cells #[.slice sa 0 sc, .slice (some ⟨fb, 0, none⟩) 1 fc] 44)) := ⟨_, rfl⟩
  have hX1 : Boxes w W1 m sa sc fb fc := by rw [hW1]; exact Boxes.new w m sa sc fb fc
  have hz1 : W1.heap.size = w.heap.size + 2 := by rw [hW1]; simp
  obtain ⟨W0, hW0⟩ : ∃ W0, W0 = W1.alloc (.cells #[.slice none 0 0, .slice none 0 0] 44) := ⟨_, rfl⟩
  have hb0 : Below W1.heap.size W1 W0 := by rw [hW0]; exact (Below.refl _ _).alloc (Nat.le_refl _) _
  have hX : Boxes w W0 m sa sc fb fc := hX1.on hb0
  have hZ : W0.heap[w.heap.size + 2]? = some (.cells #[.slice none 0 0, .slice none 0 0] 44 (0, 0)) := by rw [hW0, ← hz1]; exact heap_alloc_new W1 _
  have hz0 : W0.heap.size = w.heap.size + 3 := by rw [hW0]; simp [hz1]
  have HAs : Hid (Calls Tryd.prog 15 #[.agg #[.slice none 0 0, .slice (some ⟨m, 0, none⟩) 1 1, .slice none 0 0], .agg #[.slice sa 0 sc, .slice (some ⟨fb, 0, none⟩) 1 fc], .int .i64 0, .slice (some ⟨ab, 0, none⟩) 1 1] W0 fun e w' => e = .returned (.tuple #[.agg #[.int .i64 v, .int .i64 0, .int .i64 0], .int .i64 0]) ∧ Below W0.heap.size W0 w') := asked_one m fb ab v sa sc fc [] none 0 W0 (hG.below hX.below) (hS.below hX.below) (hW.below hX.below) (hA.below hX.below) hv
  have HW : Hid (∀ V, Below w.heap.size w V → WrR V fb [] none 0) := fun V hV => hW.below hV
  have HS : Hid (∀ V, Below w.heap.size w V → OneR V m) := fun V hV => hS.below hV
  have HX := Lib.hid hX
  have HZ := Lib.hid hZ
  have HV := Lib.hid hv
  have HU := Lib.hid hu
  clear hG hS hW hX hA hv hu hX1 hb0 hz1 hZ
  go_enter Tryd.func8, Tryd.ntmps8
  go_wp2_with fail
  rw [← hW1, ← hW0]
  clear hW0 hW1
  refine HAs.out.mono ?_
  rintro e w1 ⟨rfl, hb1⟩
  have HX1 := Lib.hid (HX.out.on hb1)
  have HZ1 := Lib.hid ((hb1.block _ (by omega)).trans HZ.out)
  have hlt0 : w.heap.size + 2 < w1.heap.size := by have := hb1.size; omega
  have hlt1 : w.heap.size + 1 < w1.heap.size := by omega
  obtain ⟨c0, c1, c2, c3, c4⟩ := HX1.out.cells
  obtain ⟨b0, b1⟩ := (HW.out _ HX1.out.below).cells
  have hflt := (HW.out _ HX1.out.below).lt
  clear hb1 HAs
  obtain ⟨WA, hWA⟩ : ∃ WA, WA = w1.alloc (.cells #[.int .i64 v, .int .i64 0, .int .i64 0] 57) := ⟨_, rfl⟩
  have hA1 : Below w1.heap.size w1 WA := by rw [hWA]; exact (Below.refl _ _).alloc (Nat.le_refl _) _
  have hT : WA.heap[w1.heap.size]? = some (.cells #[.int .i64 v, .int .i64 0, .int .i64 0] 57 (0, 0)) := by rw [hWA]; exact heap_alloc_new w1 _
  have hzA : WA.heap.size = w1.heap.size + 1 := by rw [hWA]; simp
  have HXA := Lib.hid (HX1.out.on hA1)
  have HZA := Lib.hid ((hA1.block _ (by omega)).trans HZ1.out)
  have HT := Lib.hid hT
  have HK : Hid (∀ V, Below WA.heap.size WA V → V.cell? ⟨w1.heap.size, 0, none⟩ = some (.int .i64 v) ∧ V.cell? ⟨w1.heap.size, 1, none⟩ = some (.int .i64 0) ∧ V.cell? ⟨w1.heap.size, 2, none⟩ = some (.int .i64 0)) := fun V hV => by
    have e0 := cell_of_row _ _ 0 _ _ _ ((hV.block _ (by omega)).trans HT.out)
    have e1 := cell_of_row _ _ 1 _ _ _ ((hV.block _ (by omega)).trans HT.out)
    have e2 := cell_of_row _ _ 2 _ _ _ ((hV.block _ (by omega)).trans HT.out)
    simp only [List.getElem?_toArray, List.getElem?_cons_zero, List.getElem?_cons_succ] at e0 e1 e2
    exact ⟨e0, e1, e2⟩
  have HPl : Hid (∀ V, Below WA.heap.size WA V → Calls Tryd.prog 16 #[.slice none 0 0] V fun e w' => ∃ b, e = .returned (.map (some b)) ∧ MapP w' b [] ∧ Below WA.heap.size WA w') := fun V hV => by
    refine (places_any [] none 0 V (fun h => by simp at h) (by simp) (by simp) (fun r hr => by simp at hr) (fun k r h => by simp at h)).mono ?_
    rintro e w' ⟨hb, b, _, rfl, hm⟩
    exact ⟨b, rfl, hm, ball' hV hb⟩
  have HLk : Hid (∀ V b, MapP V b [] → ∃ c : Int, (Instr.lookup 64 (.map (some b)) (.agg #[.int .i64 v, .int .i64 0, .int .i64 0]) true).run Tryd.prog V = .ok (.tuple #[.int .i64 c, .bool false]) V) := fun V b hM =>
    hM.look_no (t := (v, 0, 0)) ⟨i64_may HV.out, ⟨by simp, by simp⟩, ⟨by simp, by simp⟩⟩ (by simp)
  clear hA1 hT
  simp only [List.length_nil] at b0
  go_wp2_with fail
  rw [← hWA]
  clear hWA c0 c1 c2 c3 c4 b0 b1
  obtain ⟨c0, c1, c2⟩ := HK.out WA (Below.refl _ _)
  go_region_held3 (fun V => V.cell? ⟨w1.heap.size, 0, none⟩ = some (.int .i64 v) ∧ V.cell? ⟨w1.heap.size, 1, none⟩ = some (.int .i64 0) ∧ V.cell? ⟨w1.heap.size, 2, none⟩ = some (.int .i64 0))
    (first | with_reducible exact HK.out _ (by assumption) | exact HK.out _ (Below.refl _ _) | exact HK.out _ (Below.refl _ _).drew)
    (first | (go_at_call 16; refine (HPl.out _ (Below.refl _ _).drew).mono ?_; rintro e w2 ⟨b, rfl, hm2, hb2⟩; obtain ⟨c, hlk⟩ := HLk.out _ _ hm2; clear hm2))
  have HB2 := Lib.hid hb2
  clear c0 c1 c2 hlk hb2
  have HX2 := Lib.hid (HXA.out.on HB2.out)
  have hlt2 : w.heap.size + 2 < w2.heap.size := by have := HB2.out.size; omega
  have hlt2' : w.heap.size + 1 < w2.heap.size := by omega
  have HK2 : Hid (∀ V, Below w2.heap.size w2 V → V.cell? ⟨w.heap.size, 1, none⟩ = some (.slice (some ⟨m, 0, none⟩) 1 1) ∧ V.cell? ⟨w.heap.size + 1, 0, none⟩ = some (.slice sa 0 sc) ∧ V.cell? ⟨w.heap.size + 1, 1, none⟩ = some (.slice (some ⟨fb, 0, none⟩) 1 fc) ∧ V.cell? ⟨m, 5, none⟩ = some (.int .i64 1)) := fun V hV => by
    have hx := HX2.out.on hV
    obtain ⟨_, d1, _, d3, d4⟩ := hx.cells
    obtain ⟨f0, f1, f2, f3, f4, f5⟩ := (HS.out V hx.below).cells
    exact ⟨d1, d3, d4, f5⟩
  have hmlt := (HS.out _ HX2.out.below).lt
  obtain ⟨c0, c1, c2, c3⟩ := HK2.out w2 (Below.refl _ _)
  go_wp2_with fail
  go_region_held3 (fun V => V.cell? ⟨w.heap.size, 1, none⟩ = some (.slice (some ⟨m, 0, none⟩) 1 1) ∧ V.cell? ⟨w.heap.size + 1, 0, none⟩ = some (.slice sa 0 sc) ∧ V.cell? ⟨w.heap.size + 1, 1, none⟩ = some (.slice (some ⟨fb, 0, none⟩) 1 fc) ∧ V.cell? ⟨m, 5, none⟩ = some (.int .i64 1))
    (first | with_reducible exact HK2.out _ (by assumption) | exact HK2.out _ (Below.refl _ _) | exact HK2.out _ (Below.refl _ _).drew)
    (first | (go_at_call 17; refine (valuesOf_none sa _ sc 1 fc _).mono ?_; rintro e w4 ⟨B, hB, rfl, hL4, hb4⟩; have HB4 : Below w2.heap.size w2 w4 := (Below.refl w2.heap.size w2).drew.trans hb4; have HL4 := Lib.hid hL4; clear hL4 hB hb4) | (go_at_call 18; refine (has_int B u _ HL4.out HU.out).mono ?_; rintro e w5 ⟨rfl, hb5⟩; have HB5 : Below w2.heap.size w2 w5 := ball' HB4 hb5; clear hb5))
  have HX5 := Lib.hid (HX2.out.on HB5)
  have HZ5 := Lib.hid ((HB5.block _ (by omega)).trans ((HB2.out.block _ (by omega)).trans HZA.out))
  have HT5 := Lib.hid ((HB5.block _ (by have := HB2.out.size; omega)).trans ((HB2.out.block _ (by omega)).trans HT.out))
  clear HB4 c0 c1 c2 c3 HK2 HK HL4
  have hlt5 : w.heap.size + 2 < w5.heap.size := by have := HB5.size; omega
  have hlt5' : w.heap.size + 1 < w5.heap.size := by omega
  have hlt6 : w1.heap.size < w5.heap.size := by have := HB5.size; have := HB2.out.size; omega
  clear HB5 HB2
  obtain ⟨c0, c1, c2, c3, c4⟩ := HX5.out.cells
  go_wp2_with fail
  refine (anew_one fb sa sc fc w5 (HW.out w5 HX5.out.below).box hfc).mono ?_
  rintro e w6 ⟨sa6, sc6, g, c6, rfl, hg, hF6, hb6⟩
  have HZ6 := Lib.hid ((hb6.block _ (by omega)).trans HZ5.out)
  have HT6 := Lib.hid ((hb6.block _ (by omega)).trans HT5.out)
  have HB6 : Hid (Below w.heap.size w w6) := HX5.out.below.trans (hb6.mono HX5.out.below.size)
  have hlt7 : w.heap.size + 2 < w6.heap.size := by have := hb6.size; omega
  have hlt7' : w1.heap.size < w6.heap.size := by have := hb6.size; omega
  have hgl := hF6.lt
  obtain ⟨g0, g1⟩ := hF6.cells
  have gf0 := hF6.unfrozen 0
  have HF6 := Lib.hid hF6
  have d0 := cell_of_row _ _ 0 _ _ _ HT6.out
  have d1 := cell_of_row _ _ 1 _ _ _ HT6.out
  have d2 := cell_of_row _ _ 2 _ _ _ HT6.out
  simp only [List.getElem?_toArray, List.getElem?_cons_zero, List.getElem?_cons_succ] at d0 d1 d2
  clear c0 c1 c2 c3 c4 hb6 hF6
  obtain ⟨i0, hi, hi0, hi1, hi2⟩ := info_parts info_rw
  obtain ⟨WB, hWB⟩ : ∃ WB, WB = w6.alloc (.cells #[.slice sa6 0 sc6, .slice (some ⟨g, 0, none⟩) 1 c6] 44) := ⟨_, rfl⟩
  have hzB : WB.heap.size = w6.heap.size + 1 := by rw [hWB]; simp
  have hbB : Below w6.heap.size w6 WB := by rw [hWB]; exact (Below.refl _ _).alloc (Nat.le_refl _) _
  have hxB : WB.heap[w6.heap.size]? = some (.cells #[.slice sa6 0 sc6, .slice (some ⟨g, 0, none⟩) 1 c6] 44 (0, 0)) := by rw [hWB]; exact heap_alloc_new w6 _
  go_wp2_with fail
  rw [← hWB]
  clear hWB g0 g1 gf0 d0 d1 d2
  have HZB := Lib.hid ((hbB.block _ (by omega)).trans HZ6.out)
  have hTB := (hbB.block _ (by omega)).trans HT6.out
  have hFB := HF6.out.below hgl hbB
  have HBB : Hid (Below w.heap.size w WB) := HB6.out.trans (hbB.mono (by omega))
  have hgl' : g < WB.heap.size := by omega
  have htl' : w1.heap.size < WB.heap.size := by omega
  have hxl' : w6.heap.size < WB.heap.size := by omega
  have hrl' : w.heap.size + 2 < WB.heap.size := by omega
  have hgw : w.heap.size + 2 < g := by omega
  have hgx : ¬ g = w6.heap.size := by omega
  obtain ⟨g0, g1⟩ := hFB.cells
  have gf0 := hFB.unfrozen 0
  have d0 := cell_of_row _ _ 0 _ _ _ hTB
  have d1 := cell_of_row _ _ 1 _ _ _ hTB
  have d2 := cell_of_row _ _ 2 _ _ _ hTB
  simp only [List.getElem?_toArray, List.getElem?_cons_zero, List.getElem?_cons_succ] at d0 d1 d2
  have HFB := Lib.hid hFB
  have HXB := Lib.hid hxB
  have HzB := Lib.hid hzB
  clear hTB hFB hxB hbB hzB
  go_region_law (refine step_append_lies _ rfl (.tmp 85) (.tmp 89) 60 rfl WB.heap.size 75 i0 _ 4 32 Tryd.underlying60 hi hi0 hi1 hi2 rfl (by decide) (.slice none 0 0) 0 [] (by rfl) (World.ownsRow_nil _ _ _ _) ⟨WB.heap.size, 0, none⟩ 1 1 [.int .i64 v, .int .i64 0, .int .i64 0, .int .i64 u] (by rfl) rfl (World.news_of_block (B := WB.heap.size) (cs := #[.int .i64 v, .int .i64 0, .int .i64 0, .int .i64 u]) (t := 75) (fr := (0, 0)) (heap_alloc_new WB _)) (by simp [Value.oneCell']) (by omega) (by simp [maxLen]) (by omega) (by simp) _ rfl ?_; intro r rc w9 hown9 hgrow9 hat9 hlt9; have HB9 : Below WB.heap.size WB w9 := belowG hgrow9; have hF9 : FvR w9 g (.slice none 0 0) := HFB.out.below hgl' HB9; obtain ⟨k0, k1⟩ := hF9.cells; have kf := hF9.unfrozen 0)
  all_goals
    have hr9 : r = WB.heap.size + 1 := by
      rcases hat9 with h | h
      · cases h
      · simpa using h
    have hBw : Below w.heap.size w w9 := HBB.out.trans (HB9.mono (by omega))
    have hzb := (HB9.block _ (by omega)).trans HZB.out
    have hxb := (HB9.block w6.heap.size (by omega)).trans HXB.out
    obtain ⟨E1, E2, E3⟩ := with_end (v0 := .slice sa6 0 sc6) (v1 := .slice (some ⟨g, 0, none⟩) 1 c6) hBw hzb hF9 hown9 (by omega) (by omega) (by omega) (by omega) (by omega) HV.out HU.out
    have E1 := Lib.hid E1
    have E2 := Lib.hid E2
    have E3 := Lib.hid E3
    have x0 := cell_of_row _ _ 0 _ _ _ hxb
    have x1 := cell_of_row _ _ 1 _ _ _ hxb
    have z0 := cell_of_row _ _ 0 _ _ _ hzb
    have z1 := cell_of_row _ _ 1 _ _ _ hzb
    simp only [List.getElem?_toArray, List.getElem?_cons_zero, List.getElem?_cons_succ] at x0 x1 z0 z1
    have zf : ∀ i, w9.frozen? ⟨w.heap.size + 1 + 1, i, none⟩ = false := fun i => by
      have hzb' : w9.heap[w.heap.size + 1 + 1]? = some (.cells #[.slice none 0 0, .slice none 0 0] 44 (0, 0)) := hzb
      simp [World.frozen?, hzb']
    have z0' : w9.cell? ⟨w.heap.size + 1 + 1, 0, none⟩ = some (.slice none 0 0) := z0
    have z1' : w9.cell? ⟨w.heap.size + 1 + 1, 1, none⟩ = some (.slice none 0 0) := z1
    have hgx' : ¬ w6.heap.size = g := by omega
    have hgz1 : ¬ w.heap.size + 1 + 1 = g := by omega
    have hgz2 : ¬ g = w.heap.size + 1 + 1 := by omega
    have hxz1 : ¬ w6.heap.size = w.heap.size + 1 + 1 := by omega
    have hl9 : w.heap.size + 1 + 1 < w9.heap.size := by have := HB9.size; omega
    clear hown9 hgrow9 hat9 hF9 hzb hxb hBw HB9 hr9 z0 z1 k0 k1
    go_wp2
    refine bodyPost_ret (res_cell_tmp rfl _ _ (w.heap.size + 1 + 1) _ _ _ _ rfl E1.out Tryd.underlying44 rfl wrSize) rfl ?_
    exact ⟨sa6, sc6, g, c6, _, rc, rfl, E2.out, E3.out⟩
end Go.Proofs.YtfhcmhlbidjjgaaDoor
