/- Package value's May, asked, Apply, of a world of one function of no arguments to Int. -/
import Derived.Test.YtbddghcdibdloaaGreatDoorVaB
import Derived.Test.YtbddghcdibdloaaGreatDoorSgL
import Derived.Laws.ResultCell
import Derived.Laws.Rows
import Derived.Laws.CopyOwn
namespace Go.Proofs.YtbddghcdibdloaaGreatDoor
open Go.RowKit
set_option linter.unusedVariables false
def fS : ByteArray := ⟨#[120]⟩
/-- A function of nothing, to Int. -/
def fun0 : FunA := ⟨fS, 0, 0, 0, 0, 1⟩
/-- The function lies in block m. -/
def OneR (w : World) (m : Nat) : Prop := w.heap[m]? = some (.cells #[.string ⟨#[120]⟩, .int .i64 0, .int .i64 0, .int .i64 0, .int .i64 0, .int .i64 1] 29 (0, 0))
theorem OneR.lt {w : World} {m : Nat} (h : OneR w m) : m < w.heap.size := (Array.getElem?_eq_some_iff.1 h).1
theorem OneR.below {w w' : World} {m : Nat} (h : OneR w m) (hb : Below w.heap.size w w') : OneR w' m := (hb.block _ h.lt).trans h
def sig0 (m : Nat) : SigV := ⟨[], none, 0, [fun0], some ⟨m, 0, none⟩, 1, [], none, 0⟩
theorem OneR.cells {w : World} {m : Nat} (h : OneR w m) : w.cell? ⟨m, 0, none⟩ = some (.string ⟨#[120]⟩) ∧ w.cell? ⟨m, 1, none⟩ = some (.int .i64 0) ∧ w.cell? ⟨m, 2, none⟩ = some (.int .i64 0) ∧ w.cell? ⟨m, 3, none⟩ = some (.int .i64 0) ∧ w.cell? ⟨m, 4, none⟩ = some (.int .i64 0) ∧ w.cell? ⟨m, 5, none⟩ = some (.int .i64 1) := by
  have e0 := cell_of_row _ _ 0 _ _ _ h
  have e1 := cell_of_row _ _ 1 _ _ _ h
  have e2 := cell_of_row _ _ 2 _ _ _ h
  have e3 := cell_of_row _ _ 3 _ _ _ h
  have e4 := cell_of_row _ _ 4 _ _ _ h
  have e5 := cell_of_row _ _ 5 _ _ _ h
  simp only [List.getElem?_toArray, List.getElem?_cons_zero, List.getElem?_cons_succ] at e0 e1 e2 e3 e4 e5
  exact ⟨e0, e1, e2, e3, e4, e5⟩
theorem OneR.sig {w : World} {m : Nat} (h : OneR w m) : SigR w (sig0 m) where
  sl := by simp [sig0]
  sm := by simp [sig0]
  sat := fun h => by simp [sig0] at h
  sok := fun s hs => by simp [sig0] at hs
  fl := by simp [sig0]
  fm := by simp [sig0, maxLen]
  fat := fun _ => ⟨m, 0, rfl, h.lt, fun i v hv => by
    have := cell_of_row _ _ i _ _ _ h
    rw [Nat.zero_add, this]
    have hv' : ([Value.string ⟨#[120]⟩, .int .i64 0, .int .i64 0, .int .i64 0, .int .i64 0, .int .i64 1] : List Value)[i]? = some v := hv
    rw [List.getElem?_toArray]
    exact hv'⟩
  fok := fun f hf => by
    simp only [sig0, List.mem_singleton] at hf
    subst hf
    exact ⟨by show (1 : Nat) ≤ maxLen; simp [maxLen], ⟨by simp [fun0], by simp [fun0]⟩, ⟨by simp [fun0], by simp [fun0]⟩, ⟨by simp [fun0], by simp [fun0]⟩, ⟨by simp [fun0], by simp [fun0]⟩, ⟨by simp [fun0], by simp [fun0]⟩⟩
  ml := by simp [sig0]
  mm := by simp [sig0]
  mat := fun h => by simp [sig0] at h
  mok := fun s hs => by simp [sig0] at hs
theorem sig0_K (w : World) (m : Nat) : SigK w (sig0 m) := fun x hx => by simp [sig0] at hx
theorem sig0_may (m : Nat) : mayA (sig0 m).a = true := by
  show mayA ⟨[], [fun0], []⟩ = true
  decide +kernel
theorem Check_one (m : Nat) (w : World) (hG : GS w) (h : OneR w m) :
    Calls Tryz.prog 39 #[.agg #[.slice none 0 0, .slice (some ⟨m, 0, none⟩) 1 1, .slice none 0 0]] w fun e w' => e = .returned (.int .i64 0) ∧ Below w.heap.size w w' := by
  refine (Check_any (sig0 m) w hG h.sig).mono ?_
  rintro e w' ⟨r, rfl, _, h2, h3⟩
  have := h2 (sig0_K _ _) (sig0_may _)
  subst this
  exact ⟨rfl, h3⟩
/-- What a function is lies at the head of block fb. -/
def FvR (w : World) (fb : Nat) (v : Value) : Prop := ∃ cs : Array Value, w.heap[fb]? = some (.cells cs 47 (0, 0)) ∧ cs[0]? = some v ∧ cs[1]? = some (.int .i64 3)
theorem FvR.lt {w : World} {fb : Nat} {v : Value} (h : FvR w fb v) : fb < w.heap.size := by
  obtain ⟨cs, h, _⟩ := h
  exact (Array.getElem?_eq_some_iff.1 h).1
theorem FvR.below {w w' : World} {fb B : Nat} {v : Value} (h : FvR w fb v) (hlt : fb < B) (hb : Below B w w') : FvR w' fb v := by
  obtain ⟨cs, h, h2⟩ := h
  exact ⟨cs, (hb.block _ hlt).trans h, h2⟩
theorem FvR.cells {w : World} {fb : Nat} {v : Value} (h : FvR w fb v) : w.cell? ⟨fb, 0, none⟩ = some v ∧ w.cell? ⟨fb, 1, none⟩ = some (.int .i64 3) := by
  obtain ⟨cs, h, h0, h1⟩ := h
  have e0 := cell_of_row _ _ 0 _ _ _ h
  have e1 := cell_of_row _ _ 1 _ _ _ h
  exact ⟨e0.trans h0, e1.trans h1⟩
theorem FvR.unfrozen {w : World} {fb : Nat} {v : Value} (h : FvR w fb v) (i : Nat) : w.frozen? ⟨fb, i, none⟩ = false := by
  obtain ⟨cs, h, _⟩ := h
  simp [World.frozen?, h]
def WrR (w : World) (fb : Nat) : Prop := FvR w fb (.slice none 0 0)
theorem WrR.lt {w : World} {fb : Nat} (h : WrR w fb) : fb < w.heap.size := FvR.lt h
theorem WrR.below {w w' : World} {fb : Nat} (h : WrR w fb) (hb : Below w.heap.size w w') : WrR w' fb := FvR.below h h.lt hb
theorem WrR.cells {w : World} {fb : Nat} (h : WrR w fb) : w.cell? ⟨fb, 0, none⟩ = some (.slice none 0 0) ∧ w.cell? ⟨fb, 1, none⟩ = some (.int .i64 3) := FvR.cells h
/-- Two boxes: of the signature, of the world. -/
structure Boxes (w W : World) (m : Nat) (sa : Option Addr) (sc fb fc : Nat) : Prop where
  below : Below w.heap.size w W
  size : w.heap.size + 2 ≤ W.heap.size
  g : W.heap[w.heap.size]? = some (.cells #[.slice none 0 0, .slice (some ⟨m, 0, none⟩) 1 1, .slice none 0 0] 34 (0, 0))
  w : W.heap[w.heap.size + 1]? = some (.cells #[.slice sa 0 sc, .slice (some ⟨fb, 0, none⟩) 1 fc] 51 (0, 0))
theorem Boxes.on {w W V : World} {m : Nat} {sa : Option Addr} {sc fb fc : Nat} (h : Boxes w W m sa sc fb fc) (hb : Below W.heap.size W V) : Boxes w V m sa sc fb fc :=
  ⟨ball' (W0 := w) h.below hb, Nat.le_trans h.size hb.size, (hb.block _ (by have := h.size; omega)).trans h.g, (hb.block _ (by have := h.size; omega)).trans h.w⟩
theorem Boxes.new (w : World) (m : Nat) (sa : Option Addr) (sc fb fc : Nat) : Boxes w ((w.alloc (.cells #[.slice none 0 0, .slice (some ⟨m, 0, none⟩) 1 1, .slice none 0 0] 34)).alloc (.cells #[.slice sa 0 sc, .slice (some ⟨fb, 0, none⟩) 1 fc] 51)) m sa sc fb fc :=
  ⟨((Below.refl _ _).alloc (Nat.le_refl _) _).alloc (by simp) _, by simp, by rw [Below.heap_alloc _ _ _ (by simp)]; exact heap_alloc_new w _, by
    have := heap_alloc_new (w.alloc (.cells #[.slice none 0 0, .slice (some ⟨m, 0, none⟩) 1 1, .slice none 0 0] 34)) (.cells #[.slice sa 0 sc, .slice (some ⟨fb, 0, none⟩) 1 fc] 51)
    simpa only [World.size_alloc] using this⟩
theorem Boxes.cells {w W : World} {m : Nat} {sa : Option Addr} {sc fb fc : Nat} (h : Boxes w W m sa sc fb fc) :
    W.cell? ⟨w.heap.size, 0, none⟩ = some (.slice none 0 0) ∧ W.cell? ⟨w.heap.size, 1, none⟩ = some (.slice (some ⟨m, 0, none⟩) 1 1) ∧ W.cell? ⟨w.heap.size, 2, none⟩ = some (.slice none 0 0) ∧ W.cell? ⟨w.heap.size + 1, 0, none⟩ = some (.slice sa 0 sc) ∧ W.cell? ⟨w.heap.size + 1, 1, none⟩ = some (.slice (some ⟨fb, 0, none⟩) 1 fc) := by
  have e0 := cell_of_row _ _ 0 _ _ _ h.g
  have e1 := cell_of_row _ _ 1 _ _ _ h.g
  have e2 := cell_of_row _ _ 2 _ _ _ h.g
  have e3 := cell_of_row _ _ 0 _ _ _ h.w
  have e4 := cell_of_row _ _ 1 _ _ _ h.w
  simp only [List.getElem?_toArray, List.getElem?_cons_zero, List.getElem?_cons_succ] at e0 e1 e2 e3 e4
  exact ⟨e0, e1, e2, e3, e4⟩
set_option maxRecDepth 100000 in
set_option maxHeartbeats 2000000 in
theorem May_nil (m fb : Nat) (sa : Option Addr) (sc fc : Nat) (w : World) (hG : GS w) (hS : OneR w m) (hW : WrR w fb) :
    Calls Tryz.prog 17 #[.agg #[.slice none 0 0, .slice (some ⟨m, 0, none⟩) 1 1, .slice none 0 0], .agg #[.slice sa 0 sc, .slice (some ⟨fb, 0, none⟩) 1 fc]] w fun e w' => e = .returned (.bool true) ∧ Below w.heap.size w w' := by
  obtain ⟨W0, hW0⟩ : ∃ W0, W0 = ((w.alloc (.cells #[.slice none 0 0, .slice (some ⟨m, 0, none⟩) 1 1, .slice none 0 0] 34)).alloc (.cells #[.slice sa 0 sc, .slice (some ⟨fb, 0, none⟩) 1 fc] 51)) := ⟨_, rfl⟩
  have hX : Boxes w W0 m sa sc fb fc := by rw [hW0]; exact Boxes.new w m sa sc fb fc
  have HCk : Hid (Calls Tryz.prog 39 #[.agg #[.slice none 0 0, .slice (some ⟨m, 0, none⟩) 1 1, .slice none 0 0]] W0 fun e w' => e = .returned (.int .i64 0) ∧ Below W0.heap.size W0 w') := Check_one m W0 (hG.below hX.below) (hS.below hX.below)
  have HMF : Hid (∀ B V, LV V B → Below w.heap.size w V → Calls Tryz.prog 41 #[.slice (some ⟨B, 0, none⟩) 2 2, .agg #[.string ⟨#[120]⟩, .int .i64 0, .int .i64 0, .int .i64 0, .int .i64 0, .int .i64 1], .agg #[.slice none 0 0, .int .i64 3]] V fun e w' => e = .returned (.bool true) ∧ Below V.heap.size V w') := fun B V hL hV => mayFun_nil B V hL
  have HS : Hid (∀ V, Below w.heap.size w V → OneR V m) := fun V hV => hS.below hV
  have HW : Hid (∀ V, Below w.heap.size w V → WrR V fb) := fun V hV => hW.below hV
  have HX := Lib.hid hX
  clear hG hS hW hX
  go_enter Tryz.func17, Tryz.ntmps17
  go_wp2_with fail
  rw [← hW0]
  clear hW0
  refine HCk.out.mono ?_
  rintro e w1 ⟨rfl, hb1⟩
  have HX1 := Lib.hid (HX.out.on hb1)
  obtain ⟨c0, c1, c2, c3, c4⟩ := HX1.out.cells
  have hlt0 : w.heap.size + 1 < w1.heap.size := by have := HX1.out.size; omega
  clear hb1 HCk
  go_wp2
  go_loopw [34] (fun i wr => i = .int .i64 0 ∧ w1 = wr) (fun _ _ => 0)
  case atStart => exact ⟨rfl, rfl⟩
  case round =>
    obtain ⟨rfl, rfl⟩ := hrel
    go_wp2_with fail
    refine (valuesOf_none sa _ sc 1 fc _).mono ?_
    rintro e w2 ⟨B, hB, rfl, hL2, hb2⟩
    have HX2 := Lib.hid (HX1.out.on hb2)
    have HL2 := Lib.hid hL2
    clear c0 c1 c2 c3 c4 hB hL2 hb2 hlt0
    obtain ⟨c0, c1, c2, c3, c4⟩ := HX2.out.cells
    have hlt0 : w.heap.size + 1 < w2.heap.size := by have := HX2.out.size; omega
    go_wp2
    go_loopw [50] (fun i wr => (i = .int .i64 0 ∨ i = .int .i64 1) ∧ Hid (Below w2.heap.size w2 wr)) (fun i _ => 1 - (intOf i).toNat)
    case atStart => exact ⟨.inl rfl, Below.refl _ _⟩
    case round =>
      obtain ⟨hi, HR⟩ := hrel
      have HXr := Lib.hid (HX2.out.on HR.out)
      clear c0 c1 c2 c3 c4 hlt0
      rcases hi with rfl | rfl
      · obtain ⟨f0, f1, f2, f3, f4, f5⟩ := (HS.out _ HXr.out.below).cells
        obtain ⟨WA, hWA⟩ : ∃ WA, WA = wr.alloc (.cells #[.string ⟨#[120]⟩, .int .i64 0, .int .i64 0, .int .i64 0, .int .i64 0, .int .i64 1] 29) := ⟨_, rfl⟩
        have hAf : WA.heap[wr.heap.size]? = some (.cells #[.string ⟨#[120]⟩, .int .i64 0, .int .i64 0, .int .i64 0, .int .i64 0, .int .i64 1] 29 (0, 0)) := by rw [hWA]; exact heap_alloc_new wr _
        have hAr : Below wr.heap.size wr WA := by rw [hWA]; exact (Below.refl _ _).alloc (Nat.le_refl _) _
        have HXA := Lib.hid (HXr.out.on hAr)
        have HRA : Hid (Below w2.heap.size w2 WA) := ball' HR.out hAr
        have HKA : Hid (∀ V, Below WA.heap.size WA V → V.cell? ⟨w.heap.size + 1, 1, none⟩ = some (.slice (some ⟨fb, 0, none⟩) 1 fc) ∧ V.cell? ⟨fb, 0, none⟩ = some (.slice none 0 0) ∧ V.cell? ⟨fb, 1, none⟩ = some (.int .i64 3) ∧ V.cell? ⟨wr.heap.size, 0, none⟩ = some (.string ⟨#[120]⟩) ∧ V.cell? ⟨wr.heap.size, 1, none⟩ = some (.int .i64 0) ∧ V.cell? ⟨wr.heap.size, 2, none⟩ = some (.int .i64 0) ∧ V.cell? ⟨wr.heap.size, 3, none⟩ = some (.int .i64 0) ∧ V.cell? ⟨wr.heap.size, 4, none⟩ = some (.int .i64 0) ∧ V.cell? ⟨wr.heap.size, 5, none⟩ = some (.int .i64 1)) := fun V hV => by
          have hx := HXA.out.on hV
          obtain ⟨_, _, _, _, d4⟩ := hx.cells
          obtain ⟨g0, g1⟩ := (HW.out V hx.below).cells
          have hO : OneR V wr.heap.size := OneR.below (w := WA) hAf hV
          obtain ⟨f0, f1, f2, f3, f4, f5⟩ := hO.cells
          exact ⟨d4, g0, g1, f0, f1, f2, f3, f4, f5⟩
        have hltw : wr.heap.size < WA.heap.size := (Array.getElem?_eq_some_iff.1 hAf).1
        clear hAf hAr
        go_wp2_with fail
        rw [← hWA]
        clear hWA f0 f1 f2 f3 f4 f5
        obtain ⟨d4, g0, g1, f0, f1, f2, f3, f4, f5⟩ := HKA.out WA (Below.refl _ _)
        go_region_held3 (fun W => W.cell? ⟨w.heap.size + 1, 1, none⟩ = some (.slice (some ⟨fb, 0, none⟩) 1 fc) ∧ W.cell? ⟨fb, 0, none⟩ = some (.slice none 0 0) ∧ W.cell? ⟨fb, 1, none⟩ = some (.int .i64 3) ∧ W.cell? ⟨wr.heap.size, 0, none⟩ = some (.string ⟨#[120]⟩) ∧ W.cell? ⟨wr.heap.size, 1, none⟩ = some (.int .i64 0) ∧ W.cell? ⟨wr.heap.size, 2, none⟩ = some (.int .i64 0) ∧ W.cell? ⟨wr.heap.size, 3, none⟩ = some (.int .i64 0) ∧ W.cell? ⟨wr.heap.size, 4, none⟩ = some (.int .i64 0) ∧ W.cell? ⟨wr.heap.size, 5, none⟩ = some (.int .i64 1))
          (first | with_reducible exact HKA.out _ (by assumption) | exact HKA.out _ (Below.refl _ _) | exact HKA.out _ (Below.refl _ _).drew)
          (first | (go_at_call 41; refine (HMF.out B _ (HL2.out.below (HRA.out.drew)) (HXA.out.below.drew)).mono ?_; rintro e w3 ⟨rfl, hb3⟩; have hb4 := (Below.refl WA.heap.size WA).drew.trans hb3))
        have HX4 := Lib.hid (HXA.out.on hb4)
        have HR4 : Hid (Below w2.heap.size w2 w3) := ball' HRA.out hb4
        clear hb3 hb4 d4 g0 g1 f0 f1 f2 f3 f4 f5
        go_wp2
        go_roundw
        case rel => exact ⟨.inr rfl, HR4⟩
        case measure => simp [intOf]
      · go_wp2
        go_ret
        exact ⟨rfl, HXr.out.below⟩
theorem res_cell_tmp {P : Program} {fn : Func} {p u : Tmp} {ty : TypeId} (h : fn.results = #[.cell p ty, .tmp u]) (tmps : Array Value) (w : World) (g : Nat) (t : TypeId) (cs : Array Value) (fr : Nat × Nat) (d : TypeDesc)
    (hp : tmps.getD p undef = .pointer (some ⟨g, 0, none⟩)) (hg : w.heap[g]? = some (.cells cs t fr))
    (hu : P.underlying ty = some d) (hd : (match d with | .struct _ | .array _ _ => true | _ => false) = true) (hi : (P.info? ty).map (·.size) = some cs.size) :
    (results fn tmps).run P w = .ok (.tuple #[.agg cs, tmps.getD u undef]) w := by
  rw [results_cell_tmp h, hp]
  simp [asAddr, run_loadVar_row w g t ty cs fr d hg hu hd hi]
theorem tupSize : (Tryz.prog.info? 101).map (·.size) = some 3 := by kernel_rfl
theorem intSize : (Tryz.prog.info? 3).map (·.size) = some 1 := by kernel_rfl
set_option maxRecDepth 100000 in
set_option maxHeartbeats 2000000 in
theorem asked_nil (m fb ab : Nat) (sa : Option Addr) (sc fc : Nat) (w : World) (hG : GS w) (hS : OneR w m) (hW : WrR w fb) :
    Calls Tryz.prog 53 #[.agg #[.slice none 0 0, .slice (some ⟨m, 0, none⟩) 1 1, .slice none 0 0], .agg #[.slice sa 0 sc, .slice (some ⟨fb, 0, none⟩) 1 fc], .int .i64 0, .slice (some ⟨ab, 0, none⟩) 0 3] w fun e w' => e = .returned (.tuple #[.agg #[.int .i64 0, .int .i64 0, .int .i64 0], .int .i64 0]) ∧ Below w.heap.size w w' := by
  obtain ⟨W1, hW1⟩ : ∃ W1, W1 = ((w.alloc (.cells #[.slice none 0 0, .slice (some ⟨m, 0, none⟩) 1 1, .slice none 0 0] 34)).alloc (.cells #[.slice sa 0 sc, .slice (some ⟨fb, 0, none⟩) 1 fc] 51)) := ⟨_, rfl⟩
  have hX1 : Boxes w W1 m sa sc fb fc := by rw [hW1]; exact Boxes.new w m sa sc fb fc
  have hz1 : W1.heap.size = w.heap.size + 2 := by rw [hW1]; simp
  obtain ⟨W0, hW0⟩ : ∃ W0, W0 = W1.alloc (.cells #[.int .i64 0, .int .i64 0, .int .i64 0] 101) := ⟨_, rfl⟩
  have hb0 : Below W1.heap.size W1 W0 := by rw [hW0]; exact (Below.refl _ _).alloc (Nat.le_refl _) _
  have hX : Boxes w W0 m sa sc fb fc := hX1.on hb0
  have hZ : W0.heap[w.heap.size + 2]? = some (.cells #[.int .i64 0, .int .i64 0, .int .i64 0] 101 (0, 0)) := by rw [hW0, ← hz1]; exact heap_alloc_new W1 _
  have hz0 : W0.heap.size = w.heap.size + 3 := by rw [hW0]; simp [hz1]
  have HMay : Hid (Calls Tryz.prog 17 #[.agg #[.slice none 0 0, .slice (some ⟨m, 0, none⟩) 1 1, .slice none 0 0], .agg #[.slice sa 0 sc, .slice (some ⟨fb, 0, none⟩) 1 fc]] W0 fun e w' => e = .returned (.bool true) ∧ Below W0.heap.size W0 w') := May_nil m fb sa sc fc W0 (hG.below hX.below) (hS.below hX.below) (hW.below hX.below)
  have HS : Hid (∀ V, Below w.heap.size w V → OneR V m) := fun V hV => hS.below hV
  have HX := Lib.hid hX
  have HZ := Lib.hid hZ
  clear hG hS hW hX hX1 hb0 hz1 hZ
  go_enter Tryz.func53, Tryz.ntmps53
  go_wp2_with fail
  rw [← hW1, ← hW0]
  clear hW0 hW1
  refine HMay.out.mono ?_
  rintro e w1 ⟨rfl, hb1⟩
  have HX1 := Lib.hid (HX.out.on hb1)
  have HZ1 := Lib.hid ((hb1.block _ (by omega)).trans HZ.out)
  have hlt0 : w.heap.size + 2 < w1.heap.size := by have := hb1.size; omega
  obtain ⟨c0, c1, c2, c3, c4⟩ := HX1.out.cells
  obtain ⟨f0, f1, f2, f3, f4, f5⟩ := (HS.out _ HX1.out.below).cells
  have hmlt := (HS.out _ HX1.out.below).lt
  clear hb1 HMay
  have hgA : (w1.alloc (.cells #[.int .i64 0, .int .i64 0, .int .i64 0] 101)).heap[w1.heap.size]? = some (.cells [.int .i64 0, .int .i64 0, .int .i64 0].toArray 101 (0, 0)) := heap_alloc_new w1 _
  have hbA : Below w1.heap.size w1 (w1.alloc (.cells #[.int .i64 0, .int .i64 0, .int .i64 0] 101)) := (Below.refl _ _).alloc (Nat.le_refl _) _
  have hsA : ∀ j u, ([] : List Value)[j]? = some u → (w1.alloc (.cells #[.int .i64 0, .int .i64 0, .int .i64 0] 101)).cell? ((⟨ab, 0, none⟩ : Addr).add j) = some u := fun j u hu => by simp at hu
  have HgA := Lib.hid hgA
  have HbA := Lib.hid hbA
  have HsA := Lib.hid hsA
  clear hgA hbA hsA
  go_wp2_with (with_reducible refine wpList_copy_splice rfl _ _ _ _ rfl 3 Tryz.underlying49 intSize _ _ 3 3 0 3 rfl rfl w1.heap.size 0 [.int .i64 0, .int .i64 0, .int .i64 0] 101 HgA.out [] rfl (fun _ => ⟨rfl, _, rfl, HsA.out⟩) (by simp) (by simp [Value.oneCell']) w1.heap.size w1 HbA.out (Nat.le_refl _) ?_; intro w3 hg3 hb3)
  have hx3 : w3.heap[w1.heap.size]? = some (.cells #[.int .i64 0, .int .i64 0, .int .i64 0] 101 (0, 0)) := by have := hg3.out; simpa [splice] using this
  have HX3 := Lib.hid (HX1.out.on hb3)
  have HZ3 := Lib.hid ((hb3.block _ (by omega)).trans HZ1.out)
  have hlt3 := (Array.getElem?_eq_some_iff.1 hx3).1
  have HK : Hid (∀ V, Below w3.heap.size w3 V → V.cell? ⟨w.heap.size, 1, none⟩ = some (.slice (some ⟨m, 0, none⟩) 1 1) ∧ V.cell? ⟨w.heap.size + 1, 0, none⟩ = some (.slice sa 0 sc) ∧ V.cell? ⟨w.heap.size + 1, 1, none⟩ = some (.slice (some ⟨fb, 0, none⟩) 1 fc) ∧ V.cell? ⟨m, 0, none⟩ = some (.string ⟨#[120]⟩) ∧ V.cell? ⟨m, 1, none⟩ = some (.int .i64 0) ∧ V.cell? ⟨m, 2, none⟩ = some (.int .i64 0) ∧ V.cell? ⟨m, 3, none⟩ = some (.int .i64 0) ∧ V.cell? ⟨m, 4, none⟩ = some (.int .i64 0) ∧ V.cell? ⟨m, 5, none⟩ = some (.int .i64 1) ∧ V.cell? ⟨w1.heap.size, 0, none⟩ = some (.int .i64 0) ∧ V.cell? ⟨w1.heap.size, 1, none⟩ = some (.int .i64 0) ∧ V.cell? ⟨w1.heap.size, 2, none⟩ = some (.int .i64 0)) := fun V hV => by
    have hx := HX3.out.on hV
    obtain ⟨_, d1, _, d3, d4⟩ := hx.cells
    obtain ⟨f0, f1, f2, f3, f4, f5⟩ := (HS.out V hx.below).cells
    have hy := (hV.block _ hlt3).trans hx3
    have g0 := cell_of_row _ _ 0 _ _ _ hy
    have g1 := cell_of_row _ _ 1 _ _ _ hy
    have g2 := cell_of_row _ _ 2 _ _ _ hy
    simp only [List.getElem?_toArray, List.getElem?_cons_zero, List.getElem?_cons_succ] at g0 g1 g2
    exact ⟨d1, d3, d4, f0, f1, f2, f3, f4, f5, g0, g1, g2⟩
  clear hx3 hg3 hb3 c0 c1 c2 c3 c4 f0 f1 f2 f3 f4 f5
  obtain ⟨c0, c1, c2, f0, f1, f2, f3, f4, f5, g0, g1, g2⟩ := HK.out w3 (Below.refl _ _)
  go_wp2_with fail
  go_region_held3 (fun V => V.cell? ⟨w.heap.size, 1, none⟩ = some (.slice (some ⟨m, 0, none⟩) 1 1) ∧ V.cell? ⟨w.heap.size + 1, 0, none⟩ = some (.slice sa 0 sc) ∧ V.cell? ⟨w.heap.size + 1, 1, none⟩ = some (.slice (some ⟨fb, 0, none⟩) 1 fc) ∧ V.cell? ⟨m, 0, none⟩ = some (.string ⟨#[120]⟩) ∧ V.cell? ⟨m, 1, none⟩ = some (.int .i64 0) ∧ V.cell? ⟨m, 2, none⟩ = some (.int .i64 0) ∧ V.cell? ⟨m, 3, none⟩ = some (.int .i64 0) ∧ V.cell? ⟨m, 4, none⟩ = some (.int .i64 0) ∧ V.cell? ⟨m, 5, none⟩ = some (.int .i64 1) ∧ V.cell? ⟨w1.heap.size, 0, none⟩ = some (.int .i64 0) ∧ V.cell? ⟨w1.heap.size, 1, none⟩ = some (.int .i64 0) ∧ V.cell? ⟨w1.heap.size, 2, none⟩ = some (.int .i64 0))
    (first | with_reducible exact HK.out _ (by assumption) | exact HK.out _ (Below.refl _ _) | exact HK.out _ (Below.refl _ _).drew)
    (first | (go_at_call 40; refine (valuesOf_none sa _ sc 1 fc _).mono ?_; rintro e w4 ⟨B, hB, rfl, hL4, hb4⟩; have HB4 : Below w3.heap.size w3 w4 := (Below.refl w3.heap.size w3).drew.trans hb4; have HL4 := Lib.hid hL4; clear hL4 hB hb4) | (go_at_call 50; refine (fit_nil B _).mono ?_; rintro e w5 ⟨rfl, hb5⟩; have HB5 : Below w3.heap.size w3 w5 := ball' HB4 hb5; clear hb5))
  have HX5 := Lib.hid (HX3.out.on HB5)
  have hz5 := (HB5.block _ (by omega)).trans HZ3.out
  obtain ⟨_, _, _, _, _, _, _, _, _, g0, g1, g2⟩ := HK.out w5 HB5
  clear HB4
  have hlt5 := (Array.getElem?_eq_some_iff.1 hz5).1
  have hlt6 : w1.heap.size < w5.heap.size := Nat.lt_of_lt_of_le hlt3 HB5.size
  have z0 := cell_of_row _ _ 0 _ _ _ hz5
  have z1 := cell_of_row _ _ 1 _ _ _ hz5
  have z2 := cell_of_row _ _ 2 _ _ _ hz5
  simp only [List.getElem?_toArray, List.getElem?_cons_zero, List.getElem?_cons_succ] at z0 z1 z2
  have hfz : ∀ i, w5.frozen? ⟨w.heap.size + 1 + 1, i, none⟩ = false := fun i => by
    have hz5' : w5.heap[w.heap.size + 1 + 1]? = some (.cells #[.int .i64 0, .int .i64 0, .int .i64 0] 101 (0, 0)) := hz5
    simp [World.frozen?, hz5']
  have z0' : w5.cell? ⟨w.heap.size + 1 + 1, 0, none⟩ = some (.int .i64 0) := z0
  have z1' : w5.cell? ⟨w.heap.size + 1 + 1, 1, none⟩ = some (.int .i64 0) := z1
  have z2' : w5.cell? ⟨w.heap.size + 1 + 1, 2, none⟩ = some (.int .i64 0) := z2
  have HZ5 := Lib.hid hz5
  clear hz5 HB5
  go_wp2
  refine bodyPost_ret (res_cell_tmp rfl _ _ (w.heap.size + 1 + 1) _ _ _ _ rfl (set3 HZ5.out) Tryz.underlying101 rfl tupSize) rfl ?_
  exact ⟨rfl, ((HX5.out.below.setCell (p := ⟨w.heap.size + 1 + 1, 0, none⟩) (by simp; omega) _).setCell (p := ⟨w.heap.size + 1 + 1, 1, none⟩) (by simp; omega) _).setCell (p := ⟨w.heap.size + 1 + 1, 2, none⟩) (by simp; omega) _⟩
def ApPost (w : World) (n : Int) (e : Ending) (w' : World) : Prop := e = .returned (.tuple #[.int .i64 n, .int .i64 0]) ∧ Below w.heap.size w w'
set_option maxRecDepth 100000 in
set_option maxHeartbeats 2000000 in
theorem Apply_nil (m fb ab : Nat) (sa : Option Addr) (sc fc : Nat) (w : World) (hG : GS w) (hS : OneR w m) (hW : WrR w fb) :
    Calls Tryz.prog 45 #[.agg #[.slice none 0 0, .slice (some ⟨m, 0, none⟩) 1 1, .slice none 0 0], .agg #[.slice sa 0 sc, .slice (some ⟨fb, 0, none⟩) 1 fc], .int .i64 0, .slice (some ⟨ab, 0, none⟩) 0 3] w (ApPost w 3) := by
  obtain ⟨W0, hW0⟩ : ∃ W0, W0 = ((w.alloc (.cells #[.slice none 0 0, .slice (some ⟨m, 0, none⟩) 1 1, .slice none 0 0] 34)).alloc (.cells #[.slice sa 0 sc, .slice (some ⟨fb, 0, none⟩) 1 fc] 51)) := ⟨_, rfl⟩
  have hX : Boxes w W0 m sa sc fb fc := by rw [hW0]; exact Boxes.new w m sa sc fb fc
  have HAs : Hid (Calls Tryz.prog 53 #[.agg #[.slice none 0 0, .slice (some ⟨m, 0, none⟩) 1 1, .slice none 0 0], .agg #[.slice sa 0 sc, .slice (some ⟨fb, 0, none⟩) 1 fc], .int .i64 0, .slice (some ⟨ab, 0, none⟩) 0 3] W0 fun e w' => e = .returned (.tuple #[.agg #[.int .i64 0, .int .i64 0, .int .i64 0], .int .i64 0]) ∧ Below W0.heap.size W0 w') := asked_nil m fb ab sa sc fc W0 (hG.below hX.below) (hS.below hX.below) (hW.below hX.below)
  have HW : Hid (∀ V, Below w.heap.size w V → WrR V fb) := fun V hV => hW.below hV
  have HX := Lib.hid hX
  clear hG hS hW hX
  go_enter Tryz.func45, Tryz.ntmps45
  go_wp2_with fail
  rw [← hW0]
  clear hW0
  refine HAs.out.mono ?_
  rintro e w1 ⟨rfl, hb1⟩
  have HX1 := Lib.hid (HX.out.on hb1)
  have hlt0 : w.heap.size + 1 < w1.heap.size := by have := HX1.out.size; omega
  obtain ⟨c0, c1, c2, c3, c4⟩ := HX1.out.cells
  obtain ⟨b0, b1⟩ := (HW.out _ HX1.out.below).cells
  have hflt := (HW.out _ HX1.out.below).lt
  clear hb1 HAs
  obtain ⟨WA, hWA⟩ : ∃ WA, WA = (w1.alloc (.cells #[.int .i64 0, .int .i64 0, .int .i64 0] 101)).alloc (.cells #[.slice none 0 0, .int .i64 3] 47) := ⟨_, rfl⟩
  have hA1 : Below w1.heap.size w1 WA := by rw [hWA]; exact ((Below.refl _ _).alloc (Nat.le_refl _) _).alloc (by simp) _
  have hT : WA.heap[w1.heap.size]? = some (.cells #[.int .i64 0, .int .i64 0, .int .i64 0] 101 (0, 0)) := by
    rw [hWA, Below.heap_alloc _ _ _ (by simp)]; exact heap_alloc_new w1 _
  have hF : WA.heap[w1.heap.size + 1]? = some (.cells #[.slice none 0 0, .int .i64 3] 47 (0, 0)) := by
    rw [hWA]
    have := heap_alloc_new (w1.alloc (.cells #[.int .i64 0, .int .i64 0, .int .i64 0] 101)) (.cells #[.slice none 0 0, .int .i64 3] 47)
    simpa only [World.size_alloc] using this
  have hzA : WA.heap.size = w1.heap.size + 2 := by rw [hWA]; simp
  have HXA := Lib.hid (HX1.out.on hA1)
  have HK : Hid (∀ V, Below WA.heap.size WA V → V.cell? ⟨w1.heap.size, 0, none⟩ = some (.int .i64 0) ∧ V.cell? ⟨w1.heap.size, 1, none⟩ = some (.int .i64 0) ∧ V.cell? ⟨w1.heap.size, 2, none⟩ = some (.int .i64 0) ∧ V.cell? ⟨w1.heap.size + 1, 0, none⟩ = some (.slice none 0 0) ∧ V.cell? ⟨w1.heap.size + 1, 1, none⟩ = some (.int .i64 3)) := fun V hV => by
    have e0 := cell_of_row _ _ 0 _ _ _ ((hV.block _ (by omega)).trans hT)
    have e1 := cell_of_row _ _ 1 _ _ _ ((hV.block _ (by omega)).trans hT)
    have e2 := cell_of_row _ _ 2 _ _ _ ((hV.block _ (by omega)).trans hT)
    have e3 := cell_of_row _ _ 0 _ _ _ ((hV.block _ (by omega)).trans hF)
    have e4 := cell_of_row _ _ 1 _ _ _ ((hV.block _ (by omega)).trans hF)
    simp only [List.getElem?_toArray, List.getElem?_cons_zero, List.getElem?_cons_succ] at e0 e1 e2 e3 e4
    exact ⟨e0, e1, e2, e3, e4⟩
  have HPl : Hid (∀ V, Below WA.heap.size WA V → Calls Tryz.prog 48 #[.slice none 0 0] V fun e w' => ∃ b, e = .returned (.map (some b)) ∧ MapP w' b [] ∧ Below WA.heap.size WA w') := fun V hV => by
    refine (places_any [] none 0 V (fun h => absurd h (by simp)) (by simp) (by simp) (fun r hr => by simp at hr) (fun k r hk => by simp at hk)).mono ?_
    rintro e w' ⟨hb, b, _, rfl, hm⟩
    exact ⟨b, rfl, hm, ball' hV hb⟩
  clear hA1 hT hF
  go_wp2_with fail
  rw [← hWA]
  clear hWA c0 c1 c2 c3 c4 b0 b1
  obtain ⟨c0, c1, c2, c3, c4⟩ := HK.out WA (Below.refl _ _)
  have HLk : Hid (∀ V b, MapP V b [] → Below WA.heap.size WA V → ∃ c : Int, (Instr.lookup 89 (.map (some b)) (.agg #[.int .i64 0, .int .i64 0, .int .i64 0]) true).run Tryz.prog V = .ok (.tuple #[.int .i64 c, .bool false]) V) := fun V b hM hV => 
    hM.look_no (t := (0, 0, 0)) ⟨⟨by simp, by simp⟩, ⟨by simp, by simp⟩, ⟨by simp, by simp⟩⟩ (by simp)
  go_region_held3 (fun V => V.cell? ⟨w1.heap.size, 0, none⟩ = some (.int .i64 0) ∧ V.cell? ⟨w1.heap.size, 1, none⟩ = some (.int .i64 0) ∧ V.cell? ⟨w1.heap.size, 2, none⟩ = some (.int .i64 0) ∧ V.cell? ⟨w1.heap.size + 1, 0, none⟩ = some (.slice none 0 0) ∧ V.cell? ⟨w1.heap.size + 1, 1, none⟩ = some (.int .i64 3))
    (first | with_reducible exact HK.out _ (by assumption) | exact HK.out _ (Below.refl _ _) | exact HK.out _ (Below.refl _ _).drew)
    (first | (go_at_call 48; refine (HPl.out _ (Below.refl _ _).drew).mono ?_; rintro e w2 ⟨b, rfl, hm2, hb2⟩; obtain ⟨c, hlk⟩ := HLk.out _ _ hm2 hb2; clear hm2))
  have HB2 := Lib.hid hb2
  have hz2 : w1.heap.size + 1 < w2.heap.size := by have := hb2.size; omega
  clear c0 c1 c2 c3 c4 hlk hb2
  obtain ⟨c0, c1, c2, c3, c4⟩ := HK.out w2 HB2.out
  go_wp2
  go_ret2
  exact ⟨rfl, ball' HXA.out.below HB2.out⟩
end Go.Proofs.YtbddghcdibdloaaGreatDoor
