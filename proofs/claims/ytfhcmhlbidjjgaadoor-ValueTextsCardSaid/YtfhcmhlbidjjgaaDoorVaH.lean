/- Package value's May, of a world of one function of one Int to Int. -/
import Derived.Test.YtfhcmhlbidjjgaaDoorVaG
import Derived.Test.YtfhcmhlbidjjgaaDoorSgL
namespace Go.Proofs.YtfhcmhlbidjjgaaDoor
open Go.RowKit
set_option linter.unusedVariables false
/-- The function lies in block m. -/
def OneR (w : World) (m : Nat) : Prop := w.heap[m]? = some (.cells #[.string ⟨#[102]⟩, .int .i64 1, .int .i64 1, .int .i64 0, .int .i64 0, .int .i64 1] 71 (0, 0))
theorem OneR.lt {w : World} {m : Nat} (h : OneR w m) : m < w.heap.size := (Array.getElem?_eq_some_iff.1 h).1
theorem OneR.below {w w' : World} {m : Nat} (h : OneR w m) (hb : Below w.heap.size w w') : OneR w' m := (hb.block _ h.lt).trans h
def sig1 (m : Nat) : SigV := ⟨[], none, 0, [fun1], some ⟨m, 0, none⟩, 1, [], none, 0⟩
theorem OneR.cells {w : World} {m : Nat} (h : OneR w m) : w.cell? ⟨m, 0, none⟩ = some (.string ⟨#[102]⟩) ∧ w.cell? ⟨m, 1, none⟩ = some (.int .i64 1) ∧ w.cell? ⟨m, 2, none⟩ = some (.int .i64 1) ∧ w.cell? ⟨m, 3, none⟩ = some (.int .i64 0) ∧ w.cell? ⟨m, 4, none⟩ = some (.int .i64 0) ∧ w.cell? ⟨m, 5, none⟩ = some (.int .i64 1) := by
  have e0 := cell_of_row _ _ 0 _ _ _ h
  have e1 := cell_of_row _ _ 1 _ _ _ h
  have e2 := cell_of_row _ _ 2 _ _ _ h
  have e3 := cell_of_row _ _ 3 _ _ _ h
  have e4 := cell_of_row _ _ 4 _ _ _ h
  have e5 := cell_of_row _ _ 5 _ _ _ h
  simp only [List.getElem?_toArray, List.getElem?_cons_zero, List.getElem?_cons_succ] at e0 e1 e2 e3 e4 e5
  exact ⟨e0, e1, e2, e3, e4, e5⟩
theorem OneR.sig {w : World} {m : Nat} (h : OneR w m) : SigR w (sig1 m) where
  sl := by simp [sig1]
  sm := by simp [sig1]
  sat := fun h => by simp [sig1] at h
  sok := fun s hs => by simp [sig1] at hs
  fl := by simp [sig1]
  fm := by simp [sig1, maxLen]
  fat := fun _ => ⟨m, 0, rfl, h.lt, fun i v hv => by
    have := cell_of_row _ _ i _ _ _ h
    rw [Nat.zero_add, this]
    have hv' : ([Value.string ⟨#[102]⟩, .int .i64 1, .int .i64 1, .int .i64 0, .int .i64 0, .int .i64 1] : List Value)[i]? = some v := hv
    rw [List.getElem?_toArray]
    exact hv'⟩
  fok := fun f hf => by
    simp only [sig1, List.mem_singleton] at hf
    subst hf
    exact ⟨by show (1 : Nat) ≤ maxLen; simp [maxLen], ⟨by simp [fun1], by simp [fun1]⟩, ⟨by simp [fun1], by simp [fun1]⟩, ⟨by simp [fun1], by simp [fun1]⟩, ⟨by simp [fun1], by simp [fun1]⟩, ⟨by simp [fun1], by simp [fun1]⟩⟩
  ml := by simp [sig1]
  mm := by simp [sig1]
  mat := fun h => by simp [sig1] at h
  mok := fun s hs => by simp [sig1] at hs
theorem sig1_K (w : World) (m : Nat) : SigK w (sig1 m) := fun x hx => by simp [sig1] at hx
theorem sig1_may (m : Nat) : mayA (sig1 m).a = true := by
  show mayA ⟨[], [fun1], []⟩ = true
  decide +kernel
theorem Check_one (m : Nat) (w : World) (hG : GS w) (h : OneR w m) :
    Calls Tryd.prog 36 #[.agg #[.slice none 0 0, .slice (some ⟨m, 0, none⟩) 1 1, .slice none 0 0]] w fun e w' => e = .returned (.int .i64 0) ∧ Below w.heap.size w w' := by
  refine (Check_any (sig1 m) w hG h.sig).mono ?_
  rintro e w' ⟨r, rfl, _, h2, h3⟩
  have := h2 (sig1_K _ _) (sig1_may _)
  subst this
  exact ⟨rfl, h3⟩
/-- What a function is lies at the head of block fb. -/
def FvR (w : World) (fb : Nat) (v : Value) : Prop := ∃ cs : Array Value, w.heap[fb]? = some (.cells cs 62 (0, 0)) ∧ cs[0]? = some v ∧ cs[1]? = some (.int .i64 0)
theorem FvR.lt {w : World} {fb : Nat} {v : Value} (h : FvR w fb v) : fb < w.heap.size := by
  obtain ⟨cs, h, _⟩ := h
  exact (Array.getElem?_eq_some_iff.1 h).1
theorem FvR.below {w w' : World} {fb B : Nat} {v : Value} (h : FvR w fb v) (hlt : fb < B) (hb : Below B w w') : FvR w' fb v := by
  obtain ⟨cs, h, h2⟩ := h
  exact ⟨cs, (hb.block _ hlt).trans h, h2⟩
theorem FvR.cells {w : World} {fb : Nat} {v : Value} (h : FvR w fb v) : w.cell? ⟨fb, 0, none⟩ = some v ∧ w.cell? ⟨fb, 1, none⟩ = some (.int .i64 0) := by
  obtain ⟨cs, h, h0, h1⟩ := h
  have e0 := cell_of_row _ _ 0 _ _ _ h
  have e1 := cell_of_row _ _ 1 _ _ _ h
  exact ⟨e0.trans h0, e1.trans h1⟩
theorem FvR.unfrozen {w : World} {fb : Nat} {v : Value} (h : FvR w fb v) (i : Nat) : w.frozen? ⟨fb, i, none⟩ = false := by
  obtain ⟨cs, h, _⟩ := h
  simp [World.frozen?, h]
/-- A world of that signature: what the function is lies in block fb. -/
structure WrR (w : World) (fb : Nat) (l : List RowA) (ra : Option Addr) (rc : Nat) : Prop where
  box : FvR w fb (.slice ra l.length rc)
  rows : RowsR w l ra rc
theorem WrR.lt {w : World} {fb : Nat} {l : List RowA} {ra : Option Addr} {rc : Nat} (h : WrR w fb l ra rc) : fb < w.heap.size := h.box.lt
theorem WrR.below {w w' : World} {fb : Nat} {l : List RowA} {ra : Option Addr} {rc : Nat} (h : WrR w fb l ra rc) (hb : Below w.heap.size w w') : WrR w' fb l ra rc := ⟨h.box.below h.lt hb, h.rows.below hb⟩
theorem WrR.cells {w : World} {fb : Nat} {l : List RowA} {ra : Option Addr} {rc : Nat} (h : WrR w fb l ra rc) : w.cell? ⟨fb, 0, none⟩ = some (.slice ra l.length rc) ∧ w.cell? ⟨fb, 1, none⟩ = some (.int .i64 0) := h.box.cells
/-- Two boxes: of the signature, of the world. -/
structure Boxes (w W : World) (m : Nat) (sa : Option Addr) (sc fb fc : Nat) : Prop where
  below : Below w.heap.size w W
  size : w.heap.size + 2 ≤ W.heap.size
  g : W.heap[w.heap.size]? = some (.cells #[.slice none 0 0, .slice (some ⟨m, 0, none⟩) 1 1, .slice none 0 0] 26 (0, 0))
  w : W.heap[w.heap.size + 1]? = some (.cells #[.slice sa 0 sc, .slice (some ⟨fb, 0, none⟩) 1 fc] 44 (0, 0))
theorem Boxes.on {w W V : World} {m : Nat} {sa : Option Addr} {sc fb fc : Nat} (h : Boxes w W m sa sc fb fc) (hb : Below W.heap.size W V) : Boxes w V m sa sc fb fc :=
  ⟨ball' (W0 := w) h.below hb, Nat.le_trans h.size hb.size, (hb.block _ (by have := h.size; omega)).trans h.g, (hb.block _ (by have := h.size; omega)).trans h.w⟩
theorem Boxes.new (w : World) (m : Nat) (sa : Option Addr) (sc fb fc : Nat) : Boxes w ((w.alloc (.cells #[.slice none 0 0, .slice (some ⟨m, 0, none⟩) 1 1, .slice none 0 0] 26)).alloc (.cells #[.slice sa 0 sc, .slice (some ⟨fb, 0, none⟩) 1 fc] 44)) m sa sc fb fc :=
  ⟨((Below.refl _ _).alloc (Nat.le_refl _) _).alloc (by simp) _, by simp, by rw [Below.heap_alloc _ _ _ (by simp)]; exact heap_alloc_new w _, by
    have := heap_alloc_new (w.alloc (.cells #[.slice none 0 0, .slice (some ⟨m, 0, none⟩) 1 1, .slice none 0 0] 26)) (.cells #[.slice sa 0 sc, .slice (some ⟨fb, 0, none⟩) 1 fc] 44)
    simpa only [World.size_alloc] using this⟩
theorem Boxes.cells {w W : World} {m : Nat} {sa : Option Addr} {sc fb fc : Nat} (h : Boxes w W m sa sc fb fc) :
    W.cell? ⟨w.heap.size, 0, none⟩ = some (.slice none 0 0) ∧ W.cell? ⟨w.heap.size, 1, none⟩ = some (.slice (some ⟨m, 0, none⟩) 1 1) ∧ W.cell? ⟨w.heap.size, 2, none⟩ = some (.slice none 0 0) ∧ W.cell? ⟨w.heap.size + 1, 0, none⟩ = some (.slice sa 0 sc) ∧ W.cell? ⟨w.heap.size + 1, 1, none⟩ = some (.slice (some ⟨fb, 0, none⟩) 1 fc) := by
  have e0 := cell_of_row _ _ 0 _ _ _ h.g
  have e1 := cell_of_row _ _ 1 _ _ _ h.g
  have e2 := cell_of_row _ _ 2 _ _ _ h.g
  have e3 := cell_of_row _ _ 0 _ _ _ h.w
  have e4 := cell_of_row _ _ 1 _ _ _ h.w
  simp only [List.getElem?_toArray, List.getElem?_cons_zero, List.getElem?_cons_succ] at e0 e1 e2 e3 e4
  exact ⟨e0, e1, e2, e3, e4⟩
set_option maxRecDepth 100000 in
set_option maxHeartbeats 2000000 in
theorem May_one (m fb : Nat) (sa : Option Addr) (sc fc : Nat) (l : List RowA) (ra : Option Addr) (rc : Nat) (w : World) (hG : GS w) (hS : OneR w m) (hW : WrR w fb l ra rc) :
    Calls Tryd.prog 25 #[.agg #[.slice none 0 0, .slice (some ⟨m, 0, none⟩) 1 1, .slice none 0 0], .agg #[.slice sa 0 sc, .slice (some ⟨fb, 0, none⟩) 1 fc]] w fun e w' => e = .returned (.bool true) ∧ Below w.heap.size w w' := by
  obtain ⟨W0, hW0⟩ : ∃ W0, W0 = ((w.alloc (.cells #[.slice none 0 0, .slice (some ⟨m, 0, none⟩) 1 1, .slice none 0 0] 26)).alloc (.cells #[.slice sa 0 sc, .slice (some ⟨fb, 0, none⟩) 1 fc] 44)) := ⟨_, rfl⟩
  have hX : Boxes w W0 m sa sc fb fc := by rw [hW0]; exact Boxes.new w m sa sc fb fc
  have HCk : Hid (Calls Tryd.prog 36 #[.agg #[.slice none 0 0, .slice (some ⟨m, 0, none⟩) 1 1, .slice none 0 0]] W0 fun e w' => e = .returned (.int .i64 0) ∧ Below W0.heap.size W0 w') := Check_one m W0 (hG.below hX.below) (hS.below hX.below)
  have HMF : Hid (∀ B V, LV V B → Below w.heap.size w V → Calls Tryd.prog 37 #[.slice (some ⟨B, 0, none⟩) 2 2, .agg #[.string ⟨#[102]⟩, .int .i64 1, .int .i64 1, .int .i64 0, .int .i64 0, .int .i64 1], .agg #[.slice ra l.length rc, .int .i64 0]] V fun e w' => e = .returned (.bool true) ∧ Below V.heap.size V w') := fun B V hL hV => mayFun_one B l ra rc V hL (hW.rows.below hV)
  have HS : Hid (∀ V, Below w.heap.size w V → OneR V m) := fun V hV => hS.below hV
  have HW : Hid (∀ V, Below w.heap.size w V → WrR V fb l ra rc) := fun V hV => hW.below hV
  have HX := Lib.hid hX
  clear hG hS hW hX
  go_enter Tryd.func25, Tryd.ntmps25
  go_wp2_with fail
  rw [← hW0]
  clear hW0
  refine HCk.out.mono ?_
  rintro e w1 ⟨rfl, hb1⟩
  have HX1 := Lib.hid (HX.out.on hb1)
  obtain ⟨c0, c1, c2, c3, c4⟩ := HX1.out.cells
  have hlt0 : w.heap.size + 1 < w1.heap.size := by have := HX1.out.size; omega
  clear hb1 HCk
  go_wp2
  go_loopw [34] (fun i wr => i = .int .i64 0 ∧ w1 = wr) (fun _ _ => 0)
  case atStart => exact ⟨rfl, rfl⟩
  case round =>
    obtain ⟨rfl, rfl⟩ := hrel
    go_wp2_with fail
    refine (valuesOf_none sa _ sc 1 fc _).mono ?_
    rintro e w2 ⟨B, hB, rfl, hL2, hb2⟩
    have HX2 := Lib.hid (HX1.out.on hb2)
    have HL2 := Lib.hid hL2
    clear c0 c1 c2 c3 c4 hB hL2 hb2 hlt0
    obtain ⟨c0, c1, c2, c3, c4⟩ := HX2.out.cells
    have hlt0 : w.heap.size + 1 < w2.heap.size := by have := HX2.out.size; omega
    go_wp2
    go_loopw [50] (fun i wr => (i = .int .i64 0 ∨ i = .int .i64 1) ∧ Hid (Below w2.heap.size w2 wr)) (fun i _ => 1 - (intOf i).toNat)
    case atStart => exact ⟨.inl rfl, Below.refl _ _⟩
    case round =>
      obtain ⟨hi, HR⟩ := hrel
      have HXr := Lib.hid (HX2.out.on HR.out)
      clear c0 c1 c2 c3 c4 hlt0
      rcases hi with rfl | rfl
      · obtain ⟨f0, f1, f2, f3, f4, f5⟩ := (HS.out _ HXr.out.below).cells
        obtain ⟨WA, hWA⟩ : ∃ WA, WA = wr.alloc (.cells #[.string ⟨#[102]⟩, .int .i64 1, .int .i64 1, .int .i64 0, .int .i64 0, .int .i64 1] 71) := ⟨_, rfl⟩
        have hAf : WA.heap[wr.heap.size]? = some (.cells #[.string ⟨#[102]⟩, .int .i64 1, .int .i64 1, .int .i64 0, .int .i64 0, .int .i64 1] 71 (0, 0)) := by rw [hWA]; exact heap_alloc_new wr _
        have hAr : Below wr.heap.size wr WA := by rw [hWA]; exact (Below.refl _ _).alloc (Nat.le_refl _) _
        have HXA := Lib.hid (HXr.out.on hAr)
        have HRA : Hid (Below w2.heap.size w2 WA) := ball' HR.out hAr
        have HKA : Hid (∀ V, Below WA.heap.size WA V → V.cell? ⟨w.heap.size + 1, 1, none⟩ = some (.slice (some ⟨fb, 0, none⟩) 1 fc) ∧ V.cell? ⟨fb, 0, none⟩ = some (.slice ra l.length rc) ∧ V.cell? ⟨fb, 1, none⟩ = some (.int .i64 0) ∧ V.cell? ⟨wr.heap.size, 0, none⟩ = some (.string ⟨#[102]⟩) ∧ V.cell? ⟨wr.heap.size, 1, none⟩ = some (.int .i64 1) ∧ V.cell? ⟨wr.heap.size, 2, none⟩ = some (.int .i64 1) ∧ V.cell? ⟨wr.heap.size, 3, none⟩ = some (.int .i64 0) ∧ V.cell? ⟨wr.heap.size, 4, none⟩ = some (.int .i64 0) ∧ V.cell? ⟨wr.heap.size, 5, none⟩ = some (.int .i64 1)) := fun V hV => by
          have hx := HXA.out.on hV
          obtain ⟨_, _, _, _, d4⟩ := hx.cells
          obtain ⟨g0, g1⟩ := (HW.out V hx.below).cells
          have hO : OneR V wr.heap.size := OneR.below (w := WA) hAf hV
          obtain ⟨f0, f1, f2, f3, f4, f5⟩ := hO.cells
          exact ⟨d4, g0, g1, f0, f1, f2, f3, f4, f5⟩
        have hltw : wr.heap.size < WA.heap.size := (Array.getElem?_eq_some_iff.1 hAf).1
        clear hAf hAr
        go_wp2_with fail
        rw [← hWA]
        clear hWA f0 f1 f2 f3 f4 f5
        obtain ⟨d4, g0, g1, f0, f1, f2, f3, f4, f5⟩ := HKA.out WA (Below.refl _ _)
        go_region_held3 (fun W => W.cell? ⟨w.heap.size + 1, 1, none⟩ = some (.slice (some ⟨fb, 0, none⟩) 1 fc) ∧ W.cell? ⟨fb, 0, none⟩ = some (.slice ra l.length rc) ∧ W.cell? ⟨fb, 1, none⟩ = some (.int .i64 0) ∧ W.cell? ⟨wr.heap.size, 0, none⟩ = some (.string ⟨#[102]⟩) ∧ W.cell? ⟨wr.heap.size, 1, none⟩ = some (.int .i64 1) ∧ W.cell? ⟨wr.heap.size, 2, none⟩ = some (.int .i64 1) ∧ W.cell? ⟨wr.heap.size, 3, none⟩ = some (.int .i64 0) ∧ W.cell? ⟨wr.heap.size, 4, none⟩ = some (.int .i64 0) ∧ W.cell? ⟨wr.heap.size, 5, none⟩ = some (.int .i64 1))
          (first | with_reducible exact HKA.out _ (by assumption) | exact HKA.out _ (Below.refl _ _) | exact HKA.out _ (Below.refl _ _).drew)
          (first | (go_at_call 37; refine (HMF.out B _ (HL2.out.below (HRA.out.drew)) (HXA.out.below.drew)).mono ?_; rintro e w3 ⟨rfl, hb3⟩; have hb4 := (Below.refl WA.heap.size WA).drew.trans hb3))
        have HX4 := Lib.hid (HXA.out.on hb4)
        have HR4 : Hid (Below w2.heap.size w2 w3) := ball' HRA.out hb4
        clear hb3 hb4 d4 g0 g1 f0 f1 f2 f3 f4 f5
        go_wp2
        go_roundw
        case rel => exact ⟨.inr rfl, HR4⟩
        case measure => simp [intOf]
      · go_wp2
        go_ret
        exact ⟨rfl, HXr.out.below⟩
end Go.Proofs.YtfhcmhlbidjjgaaDoor
