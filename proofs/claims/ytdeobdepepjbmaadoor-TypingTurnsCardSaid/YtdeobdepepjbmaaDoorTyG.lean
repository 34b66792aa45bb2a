/- TypingTurns: kinds with two Args that are alike; the law's wakes. -/
import Derived.Test.YtdeobdepepjbmaaDoorTyF
import Derived.Test.YtdeobdepepjbmaaDoorTyP
import Derived.BigQuiet
namespace Go.Proofs.YtdeobdepepjbmaaDoor
open Go.RowKit
set_option linter.unusedVariables false
/-- What the packages find in their variables. -/
structure GA (w : World) : Prop where
  gs : GS w
  gt : Tm.GT w
  gr : Tm.GR w
theorem GA.below {w w' : World} (h : GA w) (hb : Below w.heap.size w w') : GA w' := ⟨h.gs.below hb, h.gt.below hb, h.gr.below hb⟩
theorem Op_lit (op : Int) (l : List Int) (p1 p2 : Int) (w : World) (hG : GA w) (ho : Tm.I8 op) (hl : l.length ≤ 1000) (hok : ∀ x ∈ l, I64 x) (hp : Tm.opA op l = (p1, p2)) :
    ∀ V, Below w.heap.size w V → ∀ o, o = Obj.cells ⟨l.map (Value.int .i64)⟩ 3 → Calls Tryd.prog 8 #[.int .i8 op, .slice (some ⟨V.heap.size, 0, none⟩) l.length l.length] (V.alloc o) fun e w' => e = .returned (.tuple #[.int .i64 p1, .int .i64 p2]) ∧ Below V.heap.size V w' := by
  intro V hV o ho2
  subst ho2
  have hB : Below V.heap.size V (V.alloc (.cells ⟨l.map (Value.int .i64)⟩ 3)) := (Below.refl _ V).alloc (Nat.le_refl _) _
  have hi := Tm.ints_row (heap_alloc_new V (.cells ⟨l.map (Value.int .i64)⟩ 3)) hok hl
  refine (Tm.Op_any op l _ _ (p1, p2) _ ((hG.gr.below hV).below hB) ho hi hl hp).mono ?_
  rintro e w' ⟨rfl, hb⟩
  exact ⟨rfl, hB.trans (hb.mono (by simp))⟩
theorem wk_tab : tabI emptyV.a Tm.newL = 0 ∧ mayA emptyV.a = true := by decide +kernel
theorem wk_table (a : Option Addr) (w : World) (hG : GA w) (hA : Tm.TabR w Tm.newL a 2) :
    Calls Tryd.prog 13 #[.agg #[.slice none 0 0, .slice none 0 0, .slice none 0 0], .agg #[.slice a 2 2]] w fun e w' => e = .returned (.int .i64 0) ∧ Below w.heap.size w w' := by
  refine (Table_any emptyV Tm.newL a 2 w hG.gs hG.gt hG.gr (empty_R w) hA (by decide)).mono ?_
  rintro e w' ⟨q, rfl, h1, h2, h3⟩
  have hq : q = true := (h2 (empty_K w)).trans wk_tab.2
  subst hq
  exact ⟨by rw [if_pos rfl, wk_tab.1], h3⟩
theorem wk_ite : Tm.opA 7 [0, 1, 1] = (1, 0) := by decide
theorem wk_eq : Tm.opA 6 [0, 1] = (0, 33) := by decide
theorem i64_0 : I64 0 := ⟨by decide, by decide⟩
theorem i64_1 : I64 1 := ⟨by decide, by decide⟩
theorem ok_list {l : List Int} (h : l.all (fun x => decide (-9223372036854775808 ≤ x) && decide (x ≤ 9223372036854775807)) = true) : ∀ x ∈ l, I64 x := fun x hx => by
  have := List.all_eq_true.1 h x hx
  rw [Bool.and_eq_true, decide_eq_true_eq, decide_eq_true_eq] at this
  exact this
theorem ok_011 : ∀ x ∈ [(0 : Int), 1, 1], I64 x := ok_list (by decide)
theorem ok_01 : ∀ x ∈ [(0 : Int), 1], I64 x := ok_list (by decide)
set_option maxRecDepth 100000 in
set_option maxHeartbeats 2000000 in
theorem wakes_any (w : World) (hG : GA w) : Calls Tryd.prog 7 #[] w fun e w' => e = .returned (.bool true) ∧ Below w.heap.size w w' := by
  have HI : Hid (∀ V, Below w.heap.size w V → ∀ o, o = Obj.cells #[.int .i64 0, .int .i64 1, .int .i64 1] 3 → Calls Tryd.prog 8 #[.int .i8 7, .slice (some ⟨V.heap.size, 0, none⟩) 3 3] (V.alloc o) fun e w' => e = .returned (.tuple #[.int .i64 1, .int .i64 0]) ∧ Below V.heap.size V w') :=
    Op_lit 7 [0, 1, 1] 1 0 w hG ⟨by decide, by decide⟩ (by decide) ok_011 wk_ite
  have HE : Hid (∀ V, Below w.heap.size w V → ∀ o, o = Obj.cells #[.int .i64 0, .int .i64 1] 3 → Calls Tryd.prog 8 #[.int .i8 6, .slice (some ⟨V.heap.size, 0, none⟩) 2 2] (V.alloc o) fun e w' => e = .returned (.tuple #[.int .i64 0, .int .i64 33]) ∧ Below V.heap.size V w') :=
    Op_lit 6 [0, 1] 0 33 w hG ⟨by decide, by decide⟩ (by decide) ok_01 wk_eq
  have HT : Hid (∀ V a, Below w.heap.size w V → Tm.TabR V Tm.newL a 2 → Calls Tryd.prog 13 #[.agg #[.slice none 0 0, .slice none 0 0, .slice none 0 0], .agg #[.slice a 2 2]] V fun e w' => e = .returned (.int .i64 0) ∧ Below V.heap.size V w') := fun V a hV hA => wk_table a V (hG.below hV) hA
  have HN : Hid (∀ W, Calls Tryd.prog 18 #[] W fun e w' => e = .returned (.agg #[.slice (some ⟨W.heap.size + 1, 0, none⟩) 2 2]) ∧ Tm.TabR w' Tm.newL (some ⟨W.heap.size + 1, 0, none⟩) 2 ∧ Below W.heap.size W w') := fun W => Tm.RNew_any W
  clear hG
  go_enter Tryd.func7, Tryd.ntmps7
  go_wp2_with fail
  refine (HI.out _ (Below.refl _ _) _ rfl).mono ?_
  rintro e w1 ⟨rfl, hb1⟩
  have HB1 := Lib.hid hb1
  go_wp2_with fail
  refine (HE.out _ HB1.out _ rfl).mono ?_
  rintro e w2 ⟨rfl, hb2⟩
  have HB2 : Hid (Below w.heap.size w w2) := HB1.out.trans (hb2.mono HB1.out.size)
  clear hb1 hb2
  go_wp2_with fail
  refine (HN.out _).mono ?_
  rintro e w3 ⟨rfl, ht3, hb3⟩
  have HT3 := Lib.hid ht3
  have HB3 : Hid (Below w.heap.size w w3) := HB2.out.trans (hb3.mono HB2.out.size)
  clear ht3 hb3
  go_wp2_with fail
  refine (HT.out _ _ HB3.out HT3.out).mono ?_
  rintro e w4 ⟨rfl, hb4⟩
  go_wp2
  go_ret
  exact ⟨rfl, HB3.out.trans (hb4.mono HB3.out.size)⟩
end Go.Proofs.YtdeobdepepjbmaaDoor
