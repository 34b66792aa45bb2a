/- Package value's Apply, of a world of one function of one Int to Int. -/
import Derived.Test.YtfhcmhlbidjjgaaDoorVaI
namespace Go.Proofs.YtfhcmhlbidjjgaaDoor
open Go.RowKit
set_option linter.unusedVariables false
def ApPost (w : World) (n : Int) (e : Ending) (w' : World) : Prop := e = .returned (.tuple #[.int .i64 n, .int .i64 0]) ∧ Below w.heap.size w w'
set_option maxRecDepth 100000 in
set_option maxHeartbeats 2000000 in
theorem Apply_one (m fb ab : Nat) (v n : Int) (sa : Option Addr) (sc fc : Nat) (l : List RowA) (ra : Option Addr) (rc : Nat) (w : World) (hG : GS w) (hS : OneR w m) (hW : WrR w fb l ra rc) (hA : AbR w ab v) (hv : mayB v = true)
    (hn : (∃ (k : Nat) (r : RowA), l[k]? = some r ∧ r.a0 = v ∧ r.val = n) ∨ ((v, 0, 0) ∉ l.map RowA.key ∧ n = 0)) :
    Calls Tryd.prog 11 #[.agg #[.slice none 0 0, .slice (some ⟨m, 0, none⟩) 1 1, .slice none 0 0], .agg #[.slice sa 0 sc, .slice (some ⟨fb, 0, none⟩) 1 fc], .int .i64 0, .slice (some ⟨ab, 0, none⟩) 1 1] w (ApPost w n) := by
  obtain ⟨W0, hW0⟩ : ∃ W0, W0 = ((w.alloc (.cells #[.slice none 0 0, .slice (some ⟨m, 0, none⟩) 1 1, .slice none 0 0] 26)).alloc (.cells #[.slice sa 0 sc, .slice (some ⟨fb, 0, none⟩) 1 fc] 44)) := ⟨_, rfl⟩
  have hX : Boxes w W0 m sa sc fb fc := by rw [hW0]; exact Boxes.new w m sa sc fb fc
  have HAs : Hid (Calls Tryd.prog 15 #[.agg #[.slice none 0 0, .slice (some ⟨m, 0, none⟩) 1 1, .slice none 0 0], .agg #[.slice sa 0 sc, .slice (some ⟨fb, 0, none⟩) 1 fc], .int .i64 0, .slice (some ⟨ab, 0, none⟩) 1 1] W0 fun e w' => e = .returned (.tuple #[.agg #[.int .i64 v, .int .i64 0, .int .i64 0], .int .i64 0]) ∧ Below W0.heap.size W0 w') := asked_one m fb ab v sa sc fc l ra rc W0 (hG.below hX.below) (hS.below hX.below) (hW.below hX.below) (hA.below hX.below) hv
  have HW : Hid (∀ V, Below w.heap.size w V → WrR V fb l ra rc) := fun V hV => hW.below hV
  have HX := Lib.hid hX
  have HN := Lib.hid hn
  have hfew := hW.rows.few
  have HV := Lib.hid hv
  clear hG hS hW hX hA hv hn
  go_enter Tryd.func11, Tryd.ntmps11
  go_wp2_with fail
  rw [← hW0]
  clear hW0
  refine HAs.out.mono ?_
  rintro e w1 ⟨rfl, hb1⟩
  have HX1 := Lib.hid (HX.out.on hb1)
  have hlt0 : w.heap.size + 1 < w1.heap.size := by have := HX1.out.size; omega
  obtain ⟨c0, c1, c2, c3, c4⟩ := HX1.out.cells
  obtain ⟨b0, b1⟩ := (HW.out _ HX1.out.below).cells
  have hflt := (HW.out _ HX1.out.below).lt
  clear hb1 HAs
  obtain ⟨WA, hWA⟩ : ∃ WA, WA = (w1.alloc (.cells #[.int .i64 v, .int .i64 0, .int .i64 0] 57)).alloc (.cells #[.slice ra l.length rc, .int .i64 0] 62) := ⟨_, rfl⟩
  have hA1 : Below w1.heap.size w1 WA := by rw [hWA]; exact ((Below.refl _ _).alloc (Nat.le_refl _) _).alloc (by simp) _
  have hT : WA.heap[w1.heap.size]? = some (.cells #[.int .i64 v, .int .i64 0, .int .i64 0] 57 (0, 0)) := by
    rw [hWA, Below.heap_alloc _ _ _ (by simp)]; exact heap_alloc_new w1 _
  have hF : WA.heap[w1.heap.size + 1]? = some (.cells #[.slice ra l.length rc, .int .i64 0] 62 (0, 0)) := by
    rw [hWA]
    have := heap_alloc_new (w1.alloc (.cells #[.int .i64 v, .int .i64 0, .int .i64 0] 57)) (.cells #[.slice ra l.length rc, .int .i64 0] 62)
    simpa only [World.size_alloc] using this
  have hzA : WA.heap.size = w1.heap.size + 2 := by rw [hWA]; simp
  have HXA := Lib.hid (HX1.out.on hA1)
  have HK : Hid (∀ V, Below WA.heap.size WA V → V.cell? ⟨w1.heap.size, 0, none⟩ = some (.int .i64 v) ∧ V.cell? ⟨w1.heap.size, 1, none⟩ = some (.int .i64 0) ∧ V.cell? ⟨w1.heap.size, 2, none⟩ = some (.int .i64 0) ∧ V.cell? ⟨w1.heap.size + 1, 0, none⟩ = some (.slice ra l.length rc) ∧ V.cell? ⟨w1.heap.size + 1, 1, none⟩ = some (.int .i64 0)) := fun V hV => by
    have e0 := cell_of_row _ _ 0 _ _ _ ((hV.block _ (by omega)).trans hT)
    have e1 := cell_of_row _ _ 1 _ _ _ ((hV.block _ (by omega)).trans hT)
    have e2 := cell_of_row _ _ 2 _ _ _ ((hV.block _ (by omega)).trans hT)
    have e3 := cell_of_row _ _ 0 _ _ _ ((hV.block _ (by omega)).trans hF)
    have e4 := cell_of_row _ _ 1 _ _ _ ((hV.block _ (by omega)).trans hF)
    simp only [List.getElem?_toArray, List.getElem?_cons_zero, List.getElem?_cons_succ] at e0 e1 e2 e3 e4
    exact ⟨e0, e1, e2, e3, e4⟩
  have HPl : Hid (∀ V, Below WA.heap.size WA V → Calls Tryd.prog 16 #[.slice ra l.length rc] V fun e w' => ∃ b, e = .returned (.map (some b)) ∧ MapP w' b l ∧ Below WA.heap.size WA w') := fun V hV => by
    have hR := (HW.out V (ball' HXA.out.below hV)).rows
    refine (places_any l ra rc V hR.at_ (by have := hR.few; omega) hR.le (fun r hr => (hR.ok r hr).ok) hR.uniq).mono ?_
    rintro e w' ⟨hb, b, _, rfl, hm⟩
    exact ⟨b, rfl, hm, ball' hV hb⟩
  clear hA1 hT hF
  go_wp2_with fail
  rw [← hWA]
  clear hWA c0 c1 c2 c3 c4 b0 b1
  obtain ⟨c0, c1, c2, c3, c4⟩ := HK.out WA (Below.refl _ _)
  rcases HN.out with ⟨k, r, hk, hr0, hrv⟩ | ⟨hno, hn0⟩
  · have hk' : k < l.length := (List.getElem?_eq_some_iff.1 hk).1
    have HLk : Hid (∀ V b, MapP V b l → Below WA.heap.size WA V → (Instr.lookup 64 (.map (some b)) (.agg #[.int .i64 v, .int .i64 0, .int .i64 0]) true).run Tryd.prog V = .ok (.tuple #[.int .i64 k, .bool true]) V) := fun V b hM hV => by
      have hI := (HW.out V (ball' HXA.out.below hV)).rows.ok r (List.mem_of_getElem? hk)
      have := hM.look_yes hk hI.ok
      rw [hI.a1, hI.a2, hr0] at this
      exact this
    have HRw := Lib.hid (And.intro hk (And.intro hr0 hrv))
    clear hk hr0 hrv
    go_region_held3 (fun V => V.cell? ⟨w1.heap.size, 0, none⟩ = some (.int .i64 v) ∧ V.cell? ⟨w1.heap.size, 1, none⟩ = some (.int .i64 0) ∧ V.cell? ⟨w1.heap.size, 2, none⟩ = some (.int .i64 0) ∧ V.cell? ⟨w1.heap.size + 1, 0, none⟩ = some (.slice ra l.length rc) ∧ V.cell? ⟨w1.heap.size + 1, 1, none⟩ = some (.int .i64 0))
      (first | with_reducible exact HK.out _ (by assumption) | exact HK.out _ (Below.refl _ _) | exact HK.out _ (Below.refl _ _).drew)
      (first | (go_at_call 16; refine (HPl.out _ (Below.refl _ _).drew).mono ?_; rintro e w2 ⟨b, rfl, hm2, hb2⟩; have hlk := HLk.out _ _ hm2 hb2; clear hm2))
    obtain ⟨hk, hr0, hrv⟩ := HRw.out
    have HB2 := Lib.hid hb2
    have hRw := (HW.out w2 (ball' HXA.out.below hb2)).rows
    obtain ⟨g, o, rfl, hg, hcell⟩ := hRw.at_ (by rw [len_flat frC_len]; omega)
    have q3 := hcell _ _ ((get_flat frC_len l k 3 r hk (by omega)).trans rfl)
    have hcap := hRw.le
    have hcm := hRw.cap
    rw [hrv] at q3
    simp only [← Nat.add_assoc] at q3
    have hz2 : w1.heap.size + 1 < w2.heap.size := by have := hb2.size; omega
    clear c0 c1 c2 c3 c4 hlk hRw hcell hk hr0 hrv hb2
    obtain ⟨c0, c1, c2, c3, c4⟩ := HK.out w2 HB2.out
    go_wp2
    go_ret2
    exact ⟨rfl, ball' HXA.out.below HB2.out⟩
  · have HLk : Hid (∀ V b, MapP V b l → Below WA.heap.size WA V → ∃ c : Int, (Instr.lookup 64 (.map (some b)) (.agg #[.int .i64 v, .int .i64 0, .int .i64 0]) true).run Tryd.prog V = .ok (.tuple #[.int .i64 c, .bool false]) V) := fun V b hM hV => 
      hM.look_no (t := (v, 0, 0)) ⟨i64_may HV.out, ⟨by simp, by simp⟩, ⟨by simp, by simp⟩⟩ hno
    subst hn0
    clear hno
    go_region_held3 (fun V => V.cell? ⟨w1.heap.size, 0, none⟩ = some (.int .i64 v) ∧ V.cell? ⟨w1.heap.size, 1, none⟩ = some (.int .i64 0) ∧ V.cell? ⟨w1.heap.size, 2, none⟩ = some (.int .i64 0) ∧ V.cell? ⟨w1.heap.size + 1, 0, none⟩ = some (.slice ra l.length rc) ∧ V.cell? ⟨w1.heap.size + 1, 1, none⟩ = some (.int .i64 0))
      (first | with_reducible exact HK.out _ (by assumption) | exact HK.out _ (Below.refl _ _) | exact HK.out _ (Below.refl _ _).drew)
      (first | (go_at_call 16; refine (HPl.out _ (Below.refl _ _).drew).mono ?_; rintro e w2 ⟨b, rfl, hm2, hb2⟩; obtain ⟨c, hlk⟩ := HLk.out _ _ hm2 hb2; clear hm2))
    have HB2 := Lib.hid hb2
    have hz2 : w1.heap.size + 1 < w2.heap.size := by have := hb2.size; omega
    clear c0 c1 c2 c3 c4 hlk hb2
    obtain ⟨c0, c1, c2, c3, c4⟩ := HK.out w2 HB2.out
    go_wp2
    go_ret2
    exact ⟨rfl, ball' HXA.out.below HB2.out⟩
end Go.Proofs.YtfhcmhlbidjjgaaDoor
