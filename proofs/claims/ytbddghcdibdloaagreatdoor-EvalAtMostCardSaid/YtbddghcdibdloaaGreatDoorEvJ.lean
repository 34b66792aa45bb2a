/- A region within the fence, by what its loads find; eval's (kinds).all, check, valueAt. -/
import Derived.Test.YtbddghcdibdloaaGreatDoorEvH
import Derived.Test.YtbddghcdibdloaaGreatDoorTyF
import Derived.OrdersHeld
import Derived.OrdersIn
import Derived.Deep.RegionHeld
import Derived.TacticsIn
namespace Go.Proofs.YtbddghcdibdloaaGreatDoor
open Go.RowKit
set_option linter.unusedVariables false
theorem rows_wide0 {n : Nat} {P : Program} {row : String} {args : Array Value} {w : World} {R : Value → World → Prop} (h : Rows P row args w R) : RowsIn Fence.wide n P row args w R :=
  fun c cs _ => let ⟨v, w', r, s⟩ := h c cs; ⟨v, w', r, stepsIn_wide.2 s⟩
theorem oper_wide {P : Program} {o : Oper} {a : Act} {w : World} {K : Act → World → Prop} {Q : Exit → Act → World → Prop} (n : Nat) (hd : ∀ c, o.op ≠ .defer c) (h : o.wp P a w K Q) : o.wpIn Fence.wide n P a w K Q := by
  refine ⟨fun _ _ => trivial, ?_⟩
  rw [Oper.semAt_plain _ _ _ hd]
  unfold Oper.wp at h
  generalize (execOp a.eval o).run P w = r at h ⊢
  cases r with
  | ok x w' =>
    cases x <;> first | exact h | exact ⟨fun e => (by cases e), callsIn_wide.2 h⟩ | exact ⟨fun e => (by cases e), rows_wide0 h⟩ | exact h.elim
  | halt x w' => cases x <;> exact h
def noDefer (o : Oper) : Bool := match o.op with | .defer _ => false | _ => true
theorem any_wide {P : Program} {ops : Array Oper} {Q : Exit → Act → World → Prop} {md : Region.Mode} (n : Nat) (hQ : ¬ LetsOut Q) (hnd : ops.all noDefer = true) : ∀ (fuel : Nat) (listed : Array Bool) (a : Act) (w : World), wpAny P md ops Q fuel listed a w → wpAnyIn Fence.wide n P md ops Q fuel listed a w
  | 0, listed, a, w, h => h
  | fuel + 1, listed, a, w, h => ⟨h.1, fun i hi => by
    have h1 := h.2 i hi
    unfold wpOp at h1
    unfold wpOpIn
    cases ho : ops[i]? with
    | none => simp only [ho] at h1 ⊢; exact any_wide n hQ hnd fuel _ _ _ h1
    | some o =>
      simp only [ho] at h1 ⊢
      have hd : ∀ c, o.op ≠ .defer c := fun c e => by
        obtain ⟨hlt, he⟩ := Array.getElem?_eq_some_iff.1 ho
        have h2 := Array.all_eq_true.1 hnd i hlt
        rw [he] at h2
        simp [noDefer, e] at h2
      split
      · rename_i hw
        rw [if_pos hw] at h1
        rcases h1 with h1 | h1
        · exact Oper.wpIn_mono (fun a w h => any_wide n hQ hnd fuel _ _ _ h) (oper_wide n hd h1)
        · exact absurd h1.2 hQ
      · rename_i hw
        rw [if_neg hw] at h1
        exact ⟨fun _ _ => trivial, any_wide n hQ hnd fuel _ _ _ h1⟩⟩
/-- The beginning of a region. -/
theorem wpIn_region_held0 {P : Program} {ops : Array Oper} {Q : Exit → Act → World → Prop} {S : World → Prop} {id n : Nat} {a : Act} {w : World} (hm : P.follows .mixedOrders = true) (hQ : ¬ LetsOut Q) (hnd : ops.all noDefer = true) (hS : S w.drew)
    (h : S w.drew → wpAnyH P .any ops Q S ops.size (Array.replicate ops.size false) a w.drew) : (Code.region id ops true).wpIn Fence.wide n P Q a w :=
  wpIn_region_any hm (any_wide n hQ hnd _ _ _ _ (wpAny_of_held _ _ _ _ (h hS)))
/-- The same, where no operation may leave otherwise. -/
theorem wpIn_region_heldN {P : Program} {ops : Array Oper} {Q : Exit → Act → World → Prop} {S : World → Prop} {id n : Nat} {a : Act} {w : World} (hm : P.follows .mixedOrders = true) (hnd : ops.all noDefer = true) (hS : S w.drew)
    (h : S w.drew → wpAnyH P .any ops (fun e a w => e = .normal ∧ Q .normal a w) S ops.size (Array.replicate ops.size false) a w.drew) : (Code.region id ops true).wpIn Fence.wide n P Q a w :=
  wpIn_mono (wpIn_region_held0 hm (by rintro ⟨_, _, h, _⟩; cases h) hnd hS h) (fun e a w h => by obtain ⟨rfl, h⟩ := h; exact h)
theorem kall_any (a0 a1 a2 a3 a4 a5 a6 a7 a8 a9 a10 a11 a12 a13 t0 : Value) (w : World) :
    Calls Tryz.prog 16 #[.agg #[a0, a1, a2, a3, a4, a5, a6, a7, a8, a9, a10, a11, a12, a13], .agg #[t0]] w fun e w' => e = .returned (.func (.func 37) #[] #[.pointer (some ⟨w.heap.size + 1, 0, none⟩), .pointer (some ⟨w.heap.size, 0, none⟩)]) ∧ (w.alloc (.cells #[a0, a1, a2, a3, a4, a5, a6, a7, a8, a9, a10, a11, a12, a13] 64)).alloc (.cells #[t0] 37) = w' := by
  go_enter Tryz.func16, Tryz.ntmps16
  go_wp2
  go_ret
  exact ⟨rfl, rfl⟩
/-- What the packages find in their variables. -/
structure GA (w : World) : Prop where
  gs : GS w
  gt : Tm.GT w
  gr : Tm.GR w
theorem GA.below {w w' : World} (h : GA w) (hb : Below w.heap.size w w') : GA w' := ⟨h.gs.below hb, h.gt.below hb, h.gr.below hb⟩
/-- The nodes of wakes: True, Zero, x, (+ x 1). -/
def nds : List Tm.NodeA := [⟨0, 0, 0, 0, 0, 0, 0, 0⟩, ⟨10, 0, 0, 0, 0, 1, 0, 0⟩, ⟨13, 0, 0, 0, 0, 1, 0, 0⟩, ⟨11, 1, 2, 0, 0, 1, 0, 1⟩]
theorem nds_tab (m : Nat) : tabI (sig0 m).a nds = 0 ∧ mayA (sig0 m).a = true := by
  show tabI ⟨[], [fun0], []⟩ nds = 0 ∧ mayA ⟨[], [fun0], []⟩ = true
  decide +kernel
theorem Table_nil (m : Nat) (a : Option Addr) (c : Nat) (w : World) (hG : GA w) (hS : OneR w m) (hT : Tm.TabR w nds a c) :
    Calls Tryz.prog 18 #[.agg #[.slice none 0 0, .slice (some ⟨m, 0, none⟩) 1 1, .slice none 0 0], .agg #[.slice a 4 c]] w fun e w' => e = .returned (.int .i64 0) ∧ Below w.heap.size w w' := by
  refine (Table_any (sig0 m) nds a c w hG.gs hG.gt hG.gr hS.sig hT (by decide)).mono ?_
  rintro e w' ⟨q, rfl, h1, h2, h3⟩
  have hq : q = true := (h2 (sig0_K w m)).trans (nds_tab m).2
  subst hq
  exact ⟨by rw [if_pos rfl, (nds_tab m).1], h3⟩
theorem check_nil (m fb c : Nat) (a : Option Addr) (w : World) (hG : GA w) (hS : OneR w m) (hW : WrR w fb) (hT : Tm.TabR w nds a c) :
    Calls Tryz.prog 14 #[.agg #[.slice none 0 0, .slice (some ⟨m, 0, none⟩) 1 1, .slice none 0 0], .agg #[.slice none 0 0, .slice (some ⟨fb, 0, none⟩) 1 1], .agg #[.slice a 4 c]] w fun e w' => e = .returned (.int .i64 0) ∧ Below w.heap.size w w' := by
  obtain ⟨W0, hW0⟩ : ∃ W0, W0 = (((w.alloc (.cells #[.slice none 0 0, .slice (some ⟨m, 0, none⟩) 1 1, .slice none 0 0] 34)).alloc (.cells #[.slice none 0 0, .slice (some ⟨fb, 0, none⟩) 1 1] 51)).alloc (.cells #[.slice a 4 c] 37)) := ⟨_, rfl⟩
  have hB0 : Below w.heap.size w W0 := by rw [hW0]; exact (((Below.refl _ _).alloc (Nat.le_refl _) _).alloc (by simp) _).alloc (by simp; omega) _
  have hz0 : W0.heap.size = w.heap.size + 3 := by rw [hW0]; simp
  have hg : W0.heap[w.heap.size]? = some (.cells #[.slice none 0 0, .slice (some ⟨m, 0, none⟩) 1 1, .slice none 0 0] 34 (0, 0)) := by rw [hW0, heap_push, if_neg (by simp <;> omega), heap_push, if_neg (by simp <;> omega), heap_push, if_pos rfl]
  have hx : W0.heap[w.heap.size + 1 + 1]? = some (.cells #[.slice a 4 c] 37 (0, 0)) := by rw [hW0, heap_push, if_pos (by simp)]
  have HM : Hid (Calls Tryz.prog 17 #[.agg #[.slice none 0 0, .slice (some ⟨m, 0, none⟩) 1 1, .slice none 0 0], .agg #[.slice none 0 0, .slice (some ⟨fb, 0, none⟩) 1 1]] W0 fun e w' => e = .returned (.bool true) ∧ Below W0.heap.size W0 w') := May_nil m fb none 0 1 W0 (hG.gs.below hB0) (hS.below hB0) (hW.below hB0)
  have HT : Hid (∀ V, Below w.heap.size w V → Calls Tryz.prog 18 #[.agg #[.slice none 0 0, .slice (some ⟨m, 0, none⟩) 1 1, .slice none 0 0], .agg #[.slice a 4 c]] V fun e w' => e = .returned (.int .i64 0) ∧ Below V.heap.size V w') := fun V hV => Table_nil m a c V (hG.below hV) (hS.below hV) (hT.below hV)
  have HB0 := Lib.hid hB0
  have Hg := Lib.hid hg
  have Hx := Lib.hid hx
  clear hG hS hW hT hB0 hg hx
  go_enter Tryz.func14, Tryz.ntmps14
  go_wp2_with fail
  rw [← hW0]
  clear hW0
  refine HM.out.mono ?_
  rintro e w1 ⟨rfl, hb1⟩
  have hg1 := (hb1.block _ (by omega)).trans Hg.out
  have hx1 := (hb1.block _ (by omega)).trans Hx.out
  have hlt := hb1.size
  have e0 := cell_of_row _ _ 0 _ _ _ hg1
  have e1 := cell_of_row _ _ 1 _ _ _ hg1
  have e2 := cell_of_row _ _ 2 _ _ _ hg1
  have e3 := cell_of_row _ _ 0 _ _ _ hx1
  simp only [List.getElem?_toArray, List.getElem?_cons_zero, List.getElem?_cons_succ] at e0 e1 e2 e3
  have HB1 : Hid (Below w.heap.size w w1) := ball' HB0.out hb1
  clear hg1 hx1 hb1
  go_wp2_with fail
  refine (HT.out _ HB1.out).mono ?_
  rintro e w2 ⟨rfl, hb2⟩
  go_wp2
  go_ret
  exact ⟨rfl, ball' HB1.out hb2⟩
theorem valueAt_3 (bl bo cl co : Nat) (w : World) (hl : bl < w.heap.size) (ho : bo < w.heap.size) (h0 : w.cell? ⟨bl, 3, none⟩ = some (.int .i64 4)) (h1 : w.cell? ⟨bo, 3, none⟩ = some (.bool false)) :
    Calls Tryz.prog 13 #[.slice (some ⟨bl, 0, none⟩) 4 cl, .slice (some ⟨bo, 0, none⟩) 4 co, .int .i64 3] w fun e w' => e = .returned (.tuple #[.int .i64 4, .int .i64 0]) ∧ Below w.heap.size w w' := by
  go_enter Tryz.func13, Tryz.ntmps13
  go_wp2
  go_ret2
  exact ⟨rfl, Below.refl _ _⟩
end Go.Proofs.YtbddghcdibdloaaGreatDoor
