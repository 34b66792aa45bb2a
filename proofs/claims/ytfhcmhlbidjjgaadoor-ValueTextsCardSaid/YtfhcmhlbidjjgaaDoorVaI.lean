/- Package value's asked, of a world of one function of one Int to Int. -/
import Derived.Test.YtfhcmhlbidjjgaaDoorVaH
import Derived.Laws.ResultCell
import Derived.Laws.Rows
import Derived.Laws.CopyOwn
namespace Go.Proofs.YtfhcmhlbidjjgaaDoor
open Go.RowKit
set_option linter.unusedVariables false
theorem res_cell_tmp {P : Program} {fn : Func} {p u : Tmp} {ty : TypeId} (h : fn.results = #[.cell p ty, .tmp u]) (tmps : Array Value) (w : World) (g : Nat) (t : TypeId) (cs : Array Value) (fr : Nat × Nat) (d : TypeDesc)
    (hp : tmps.getD p undef = .pointer (some ⟨g, 0, none⟩)) (hg : w.heap[g]? = some (.cells cs t fr))
    (hu : P.underlying ty = some d) (hd : (match d with | .struct _ | .array _ _ => true | _ => false) = true) (hi : (P.info? ty).map (·.size) = some cs.size) :
    (results fn tmps).run P w = .ok (.tuple #[.agg cs, tmps.getD u undef]) w := by
  rw [results_cell_tmp h, hp]
  simp [asAddr, run_loadVar_row w g t ty cs fr d hg hu hd hi]
theorem tupSize : (Tryd.prog.info? 57).map (·.size) = some 3 := by kernel_rfl
theorem intSize : (Tryd.prog.info? 3).map (·.size) = some 1 := by kernel_rfl
/-- An argument lies in block ab. -/
def AbR (w : World) (ab : Nat) (v : Int) : Prop := w.heap[ab]? = some (.cells #[.int .i64 v] 3 (0, 0))
theorem AbR.lt {w : World} {ab : Nat} {v : Int} (h : AbR w ab v) : ab < w.heap.size := (Array.getElem?_eq_some_iff.1 h).1
theorem AbR.below {w w' : World} {ab : Nat} {v : Int} (h : AbR w ab v) (hb : Below w.heap.size w w') : AbR w' ab v := (hb.block _ h.lt).trans h
theorem AbR.cell {w : World} {ab : Nat} {v : Int} (h : AbR w ab v) : w.cell? ⟨ab, 0, none⟩ = some (.int .i64 v) := by
  have e0 := cell_of_row _ _ 0 _ _ _ h
  simpa only [List.getElem?_toArray, List.getElem?_cons_zero, List.getElem?_cons_succ] using e0
set_option maxRecDepth 100000 in
set_option maxHeartbeats 2000000 in
theorem asked_one (m fb ab : Nat) (v : Int) (sa : Option Addr) (sc fc : Nat) (l : List RowA) (ra : Option Addr) (rc : Nat) (w : World) (hG : GS w) (hS : OneR w m) (hW : WrR w fb l ra rc) (hA : AbR w ab v) (hv : mayB v = true) :
    Calls Tryd.prog 15 #[.agg #[.slice none 0 0, .slice (some ⟨m, 0, none⟩) 1 1, .slice none 0 0], .agg #[.slice sa 0 sc, .slice (some ⟨fb, 0, none⟩) 1 fc], .int .i64 0, .slice (some ⟨ab, 0, none⟩) 1 1] w fun e w' => e = .returned (.tuple #[.agg #[.int .i64 v, .int .i64 0, .int .i64 0], .int .i64 0]) ∧ Below w.heap.size w w' := by
  obtain ⟨W1, hW1⟩ : ∃ W1, W1 = ((w.alloc (.cells #[.slice none 0 0, .slice (some ⟨m, 0, none⟩) 1 1, .slice none 0 0] 26)).alloc (.cells #[.slice sa 0 sc, .slice (some ⟨fb, 0, none⟩) 1 fc] 44)) := ⟨_, rfl⟩
  have hX1 : Boxes w W1 m sa sc fb fc := by rw [hW1]; exact Boxes.new w m sa sc fb fc
  have hz1 : W1.heap.size = w.heap.size + 2 := by rw [hW1]; simp
  obtain ⟨W0, hW0⟩ : ∃ W0, W0 = W1.alloc (.cells #[.int .i64 0, .int .i64 0, .int .i64 0] 57) := ⟨_, rfl⟩
  have hb0 : Below W1.heap.size W1 W0 := by rw [hW0]; exact (Below.refl _ _).alloc (Nat.le_refl _) _
  have hX : Boxes w W0 m sa sc fb fc := hX1.on hb0
  have hZ : W0.heap[w.heap.size + 2]? = some (.cells #[.int .i64 0, .int .i64 0, .int .i64 0] 57 (0, 0)) := by rw [hW0, ← hz1]; exact heap_alloc_new W1 _
  have hz0 : W0.heap.size = w.heap.size + 3 := by rw [hW0]; simp [hz1]
  have HMay : Hid (Calls Tryd.prog 25 #[.agg #[.slice none 0 0, .slice (some ⟨m, 0, none⟩) 1 1, .slice none 0 0], .agg #[.slice sa 0 sc, .slice (some ⟨fb, 0, none⟩) 1 fc]] W0 fun e w' => e = .returned (.bool true) ∧ Below W0.heap.size W0 w') := May_one m fb sa sc fc l ra rc W0 (hG.below hX.below) (hS.below hX.below) (hW.below hX.below)
  have HS : Hid (∀ V, Below w.heap.size w V → OneR V m) := fun V hV => hS.below hV
  have HA : Hid (∀ V, Below w.heap.size w V → AbR V ab v) := fun V hV => hA.below hV
  have HV := Lib.hid hv
  have HX := Lib.hid hX
  have HZ := Lib.hid hZ
  clear hG hS hW hX hA hv hX1 hb0 hz1 hZ
  go_enter Tryd.func15, Tryd.ntmps15
  go_wp2_with fail
  rw [← hW1, ← hW0]
  clear hW0 hW1
  refine HMay.out.mono ?_
  rintro e w1 ⟨rfl, hb1⟩
  have HX1 := Lib.hid (HX.out.on hb1)
  have HZ1 := Lib.hid ((hb1.block _ (by omega)).trans HZ.out)
  have hlt0 : w.heap.size + 2 < w1.heap.size := by have := hb1.size; omega
  obtain ⟨c0, c1, c2, c3, c4⟩ := HX1.out.cells
  obtain ⟨f0, f1, f2, f3, f4, f5⟩ := (HS.out _ HX1.out.below).cells
  have hmlt := (HS.out _ HX1.out.below).lt
  clear hb1 HMay
  have hgA : (w1.alloc (.cells #[.int .i64 0, .int .i64 0, .int .i64 0] 57)).heap[w1.heap.size]? = some (.cells [.int .i64 0, .int .i64 0, .int .i64 0].toArray 57 (0, 0)) := heap_alloc_new w1 _
  have hbA : Below w1.heap.size w1 (w1.alloc (.cells #[.int .i64 0, .int .i64 0, .int .i64 0] 57)) := (Below.refl _ _).alloc (Nat.le_refl _) _
  have hsA : ∀ j u, ([.int .i64 v] : List Value)[j]? = some u → (w1.alloc (.cells #[.int .i64 0, .int .i64 0, .int .i64 0] 57)).cell? ((⟨ab, 0, none⟩ : Addr).add j) = some u := fun j u hu => by
    cases j with
    | zero =>
      cases hu
      exact AbR.cell (AbR.below (HA.out _ HX1.out.below) hbA)
    | succ j => simp at hu
  have HgA := Lib.hid hgA
  have HbA := Lib.hid hbA
  have HsA := Lib.hid hsA
  clear hgA hbA hsA
  go_wp2_with (with_reducible refine wpList_copy_splice rfl _ _ _ _ rfl 3 Tryd.underlying41 intSize _ _ 3 3 1 1 rfl rfl w1.heap.size 0 [.int .i64 0, .int .i64 0, .int .i64 0] 57 HgA.out [.int .i64 v] rfl (fun _ => ⟨rfl, _, rfl, HsA.out⟩) (by simp) (by simp [Value.oneCell']) w1.heap.size w1 HbA.out (Nat.le_refl _) ?_; intro w3 hg3 hb3)
  have hx3 : w3.heap[w1.heap.size]? = some (.cells #[.int .i64 v, .int .i64 0, .int .i64 0] 57 (0, 0)) := by have := hg3.out; simpa [splice] using this
  have HX3 := Lib.hid (HX1.out.on hb3)
  have HZ3 := Lib.hid ((hb3.block _ (by omega)).trans HZ1.out)
  have hlt3 := (Array.getElem?_eq_some_iff.1 hx3).1
  have HK : Hid (∀ V, Below w3.heap.size w3 V → V.cell? ⟨w.heap.size, 1, none⟩ = some (.slice (some ⟨m, 0, none⟩) 1 1) ∧ V.cell? ⟨w.heap.size + 1, 0, none⟩ = some (.slice sa 0 sc) ∧ V.cell? ⟨w.heap.size + 1, 1, none⟩ = some (.slice (some ⟨fb, 0, none⟩) 1 fc) ∧ V.cell? ⟨m, 0, none⟩ = some (.string ⟨#[102]⟩) ∧ V.cell? ⟨m, 1, none⟩ = some (.int .i64 1) ∧ V.cell? ⟨m, 2, none⟩ = some (.int .i64 1) ∧ V.cell? ⟨m, 3, none⟩ = some (.int .i64 0) ∧ V.cell? ⟨m, 4, none⟩ = some (.int .i64 0) ∧ V.cell? ⟨m, 5, none⟩ = some (.int .i64 1) ∧ V.cell? ⟨w1.heap.size, 0, none⟩ = some (.int .i64 v) ∧ V.cell? ⟨w1.heap.size, 1, none⟩ = some (.int .i64 0) ∧ V.cell? ⟨w1.heap.size, 2, none⟩ = some (.int .i64 0)) := fun V hV => by
    have hx := HX3.out.on hV
    obtain ⟨_, d1, _, d3, d4⟩ := hx.cells
    obtain ⟨f0, f1, f2, f3, f4, f5⟩ := (HS.out V hx.below).cells
    have hy := (hV.block _ hlt3).trans hx3
    have g0 := cell_of_row _ _ 0 _ _ _ hy
    have g1 := cell_of_row _ _ 1 _ _ _ hy
    have g2 := cell_of_row _ _ 2 _ _ _ hy
    simp only [List.getElem?_toArray, List.getElem?_cons_zero, List.getElem?_cons_succ] at g0 g1 g2
    exact ⟨d1, d3, d4, f0, f1, f2, f3, f4, f5, g0, g1, g2⟩
  clear hx3 hg3 hb3 c0 c1 c2 c3 c4 f0 f1 f2 f3 f4 f5
  obtain ⟨c0, c1, c2, f0, f1, f2, f3, f4, f5, g0, g1, g2⟩ := HK.out w3 (Below.refl _ _)
  go_wp2_with fail
  go_region_held3 (fun V => V.cell? ⟨w.heap.size, 1, none⟩ = some (.slice (some ⟨m, 0, none⟩) 1 1) ∧ V.cell? ⟨w.heap.size + 1, 0, none⟩ = some (.slice sa 0 sc) ∧ V.cell? ⟨w.heap.size + 1, 1, none⟩ = some (.slice (some ⟨fb, 0, none⟩) 1 fc) ∧ V.cell? ⟨m, 0, none⟩ = some (.string ⟨#[102]⟩) ∧ V.cell? ⟨m, 1, none⟩ = some (.int .i64 1) ∧ V.cell? ⟨m, 2, none⟩ = some (.int .i64 1) ∧ V.cell? ⟨m, 3, none⟩ = some (.int .i64 0) ∧ V.cell? ⟨m, 4, none⟩ = some (.int .i64 0) ∧ V.cell? ⟨m, 5, none⟩ = some (.int .i64 1) ∧ V.cell? ⟨w1.heap.size, 0, none⟩ = some (.int .i64 v) ∧ V.cell? ⟨w1.heap.size, 1, none⟩ = some (.int .i64 0) ∧ V.cell? ⟨w1.heap.size, 2, none⟩ = some (.int .i64 0))
    (first | with_reducible exact HK.out _ (by assumption) | exact HK.out _ (Below.refl _ _) | exact HK.out _ (Below.refl _ _).drew)
    (first | (go_at_call 17; refine (valuesOf_none sa _ sc 1 fc _).mono ?_; rintro e w4 ⟨B, hB, rfl, hL4, hb4⟩; have HB4 : Below w3.heap.size w3 w4 := (Below.refl w3.heap.size w3).drew.trans hb4; have HL4 := Lib.hid hL4; clear hL4 hB hb4) | (go_at_call 26; refine (fit_one B v _ HL4.out HV.out).mono ?_; rintro e w5 ⟨rfl, hb5⟩; have HB5 : Below w3.heap.size w3 w5 := ball' HB4 hb5; clear hb5))
  have HX5 := Lib.hid (HX3.out.on HB5)
  have hz5 := (HB5.block _ (by omega)).trans HZ3.out
  obtain ⟨_, _, _, _, _, _, _, _, _, g0, g1, g2⟩ := HK.out w5 HB5
  clear HB4
  have hlt5 := (Array.getElem?_eq_some_iff.1 hz5).1
  have hlt6 : w1.heap.size < w5.heap.size := Nat.lt_of_lt_of_le hlt3 HB5.size
  have z0 := cell_of_row _ _ 0 _ _ _ hz5
  have z1 := cell_of_row _ _ 1 _ _ _ hz5
  have z2 := cell_of_row _ _ 2 _ _ _ hz5
  simp only [List.getElem?_toArray, List.getElem?_cons_zero, List.getElem?_cons_succ] at z0 z1 z2
  have hfz : ∀ i, w5.frozen? ⟨w.heap.size + 1 + 1, i, none⟩ = false := fun i => by
    have hz5' : w5.heap[w.heap.size + 1 + 1]? = some (.cells #[.int .i64 0, .int .i64 0, .int .i64 0] 57 (0, 0)) := hz5
    simp [World.frozen?, hz5']
  have z0' : w5.cell? ⟨w.heap.size + 1 + 1, 0, none⟩ = some (.int .i64 0) := z0
  have z1' : w5.cell? ⟨w.heap.size + 1 + 1, 1, none⟩ = some (.int .i64 0) := z1
  have z2' : w5.cell? ⟨w.heap.size + 1 + 1, 2, none⟩ = some (.int .i64 0) := z2
  have HZ5 := Lib.hid hz5
  clear hz5 HB5
  go_wp2
  refine bodyPost_ret (res_cell_tmp rfl _ _ (w.heap.size + 1 + 1) _ _ _ _ rfl (set3 HZ5.out) Tryd.underlying57 rfl tupSize) rfl ?_
  exact ⟨rfl, ((HX5.out.below.setCell (p := ⟨w.heap.size + 1 + 1, 0, none⟩) (by simp; omega) _).setCell (p := ⟨w.heap.size + 1 + 1, 1, none⟩) (by simp; omega) _).setCell (p := ⟨w.heap.size + 1 + 1, 2, none⟩) (by simp; omega) _⟩
end Go.Proofs.YtfhcmhlbidjjgaaDoor
