/- Atoms: wakes. -/
import Derived.Test.YtaiabpbcipnjaaaDoorAtL
namespace Go.Proofs.YtaiabpbcipnjaaaDoor.Tm
open Go.RowKit
set_option linter.unusedVariables false
theorem wak_may : mayT wakL = true := by decide
theorem wak_l2 : atLit wakL 2 = (4, 0) := by decide
theorem wak_l3 : atLit wakL 3 = (5, 0) := by decide
theorem wak_l1 : atLit wakL 1 = (0, 33) := by decide
theorem wak_kind : kindA wakL notN = 2 := by decide
theorem wak_euf : eufL wakL [4, 0] = [4] := by decide
set_option maxRecDepth 100000 in
theorem Kind_any (l : List NodeA) (a : Option Addr) (c k : Nat) (n : NodeA) (v : Int) (w : World) (hG : GK w) (hA : TabR w l a c) (hm : mayT l = true) (hl : l.length ≤ 3000) (hk : l[k]? = some n) (hv : kindA l n = v) :
    Calls Tryd.prog 19 #[.agg #[.slice a l.length c], .int .i64 k] w fun e w' => e = .returned (.int .i8 v) ∧ Below w.heap.size w w' := by
  obtain ⟨W0, hW0⟩ : ∃ W0, W0 = w.alloc (.cells #[.slice a l.length c] 24) := ⟨_, rfl⟩
  obtain ⟨hB0, hX⟩ := tab_box hW0
  have hok := (mayT_ok hm).2
  have hcap := hA.le
  have hlt := (List.getElem?_eq_some_iff.1 hk).1
  have hmx : l.length ≤ 9223372036854775807 := by omega
  have HCk : Hid (Calls Tryd.prog 20 #[.agg #[.slice a l.length c]] W0 fun e w' => e = .returned (.int .i64 0) ∧ Below W0.heap.size W0 w') := Check_any l a c 0 W0 (hG.t.below hB0) (hA.below hB0) hl (by rw [hm]; rfl)
  have HH : Hid (∀ V, Calls Tryd.prog 22 #[.agg #[.slice a l.length c], .int .i64 k] V fun e w' => e = .returned (.bool true) ∧ Below V.heap.size V w') := fun V => has_any l a c k true V hmx (decide_eq_true ⟨by omega, by omega⟩)
  have HK : Hid (∀ V, Below w.heap.size w V → Calls Tryd.prog 30 #[.agg #[.slice a l.length c], .int .i64 k] V fun e w' => e = .returned (.int .i8 v) ∧ Below V.heap.size V w') := fun V hV => kind_any l a c k n v V (hG.below hV) (hA.below hV) hok hl hk hv
  obtain ⟨x0, xz⟩ := hX _ (Below.refl _ _)
  have HX := Lib.hid hX
  have HB0 := Lib.hid hB0
  clear hX hB0 hA hG hm hok hk hv hlt
  go_enter Tryd.func19, Tryd.ntmps19
  go_wp2_with fail
  rw [← hW0]
  clear hW0
  refine HCk.out.mono ?_
  rintro e w1 ⟨rfl, hb1⟩
  have HB1 := Lib.hid hb1
  clear hb1 x0 xz
  obtain ⟨x0, xz⟩ := HX.out _ HB1.out
  go_wp2_with fail
  refine (HH.out _).mono ?_
  rintro e w2 ⟨rfl, hb2⟩
  have HB2 : Hid (Below W0.heap.size W0 w2) := HB1.out.trans (hb2.mono HB1.out.size)
  clear hb2 x0 xz
  obtain ⟨x0, xz⟩ := HX.out _ HB2.out
  go_wp2_with fail
  refine (HK.out _ (HB0.out.trans (HB2.out.mono HB0.out.size))).mono ?_
  rintro e w3 ⟨rfl, hb3⟩
  have HB3 : Hid (Below w.heap.size w w3) := HB0.out.trans ((HB2.out.trans (hb3.mono HB2.out.size)).mono HB0.out.size)
  clear hb3
  go_wp2_with fail
  go_ret
  exact ⟨rfl, HB3.out⟩
theorem ball {w w1 w2 : World} (h : Below w.heap.size w w1) (k : Below w1.heap.size w1 w2) : Below w.heap.size w w2 := h.trans (k.mono h.size)
theorem four_ints (w : World) : IntsR (w.alloc (.cells #[.int .i64 4, .int .i64 0] 3)) [4, 0] (some ⟨w.heap.size, 0, none⟩) 2 := by
  have h := heap_alloc_new w (.cells #[.int .i64 4, .int .i64 0] 3)
  refine ⟨by decide, by decide, fun _ => ⟨w.heap.size, 0, rfl, by simp, fun i v hv => ?_⟩, fun x hx => ?_⟩
  · rw [Nat.zero_add, cell_of_row _ _ _ _ _ _ h, ← Array.getElem?_toList]
    exact hv
  · simp only [List.mem_cons, List.not_mem_nil, or_false] at hx
    rcases hx with rfl | rfl <;> exact ⟨by decide, by decide⟩
set_option maxRecDepth 100000 in
set_option maxHeartbeats 4000000 in
theorem wakes_any (w : World) (hG : GK w) : Calls Tryd.prog 7 #[] w fun e w' => e = .returned (.bool true) ∧ Below w.heap.size w w' := by
  have HS : Hid (∀ V, Below w.heap.size w V → Calls Tryd.prog 18 #[] V fun e w' => ∃ a c, e = .returned (.agg #[.slice a 4 c]) ∧ Hid (TabR w' wakL a c) ∧ Hid (Below w.heap.size w w')) := fun V hV => (some_any V).mono fun e w' ⟨a, c, h1, h2, h3⟩ => ⟨a, c, h1, h2, ball hV h3⟩
  have HL : Hid (∀ V a c (id : Int) (p : Int × Int), I64 id → atLit wakL id = p → Below w.heap.size w V → TabR V wakL a c → Calls Tryd.prog 9 #[.agg #[.slice a 4 c], .int .i64 id] V fun e w' => e = .returned (.tuple #[.int .i64 p.1, .int .i64 p.2]) ∧ Hid (Below w.heap.size w w')) := fun V a c id p hid hp hV hT => (Lit_any wakL a c id p V (hG.below hV).t hT wak_may (by decide) hid hp).mono fun e w' ⟨h1, h2⟩ => ⟨h1, ball hV h2⟩
  have HK : Hid (∀ V a c, Below w.heap.size w V → TabR V wakL a c → Calls Tryd.prog 19 #[.agg #[.slice a 4 c], .int .i64 3] V fun e w' => e = .returned (.int .i8 2) ∧ Hid (Below w.heap.size w w')) := fun V a c hV hT => (Kind_any wakL a c 3 notN 2 V (hG.below hV) hT wak_may (by decide) rfl wak_kind).mono fun e w' ⟨h1, h2⟩ => ⟨h1, ball hV h2⟩
  have HE : Hid (∀ V a c b, Below w.heap.size w V → TabR V wakL a c → IntsR V [4, 0] b 2 → Calls Tryd.prog 12 #[.agg #[.slice a 4 c], .slice b 2 2] V fun e w' => (∃ g d, e = .returned (.slice g 1 d)) ∧ Hid (Below w.heap.size w w')) := fun V a c b hV hT hI => (Euf_any wakL a c [4, 0] b 2 V (hG.below hV) hT wak_may (by decide) hI (by decide)).mono fun e w' ⟨v, h1, h2, h3⟩ => by
    rw [wak_euf] at h2
    obtain ⟨g, d, rfl, _⟩ := own_at h2
    exact ⟨⟨g, d, h1⟩, ball hV h3⟩
  have HBr : Hid (Below w.heap.size w w) := Below.refl _ _
  clear hG
  go_enter Tryd.func7, Tryd.ntmps7
  go_wp2_with fail
  refine (HS.out _ HBr.out).mono ?_
  rintro e w1 ⟨a1, c1, rfl, HT1, HB1⟩
  go_wp2_with fail
  refine (HL.out _ _ _ 2 (4, 0) ⟨by decide, by decide⟩ wak_l2 HB1.out HT1.out).mono ?_
  rintro e w2 ⟨rfl, HB2⟩
  go_wp2_with fail
  refine (HS.out _ HB2.out).mono ?_
  rintro e w3 ⟨a3, c3, rfl, HT3, HB3⟩
  go_wp2_with fail
  refine (HL.out _ _ _ 3 (5, 0) ⟨by decide, by decide⟩ wak_l3 HB3.out HT3.out).mono ?_
  rintro e w4 ⟨rfl, HB4⟩
  go_wp2_with fail
  refine (HS.out _ HB4.out).mono ?_
  rintro e w5 ⟨a5, c5, rfl, HT5, HB5⟩
  go_wp2_with fail
  refine (HL.out _ _ _ 1 (0, 33) ⟨by decide, by decide⟩ wak_l1 HB5.out HT5.out).mono ?_
  rintro e w6 ⟨rfl, HB6⟩
  go_wp2_with fail
  refine (HS.out _ HB6.out).mono ?_
  rintro e w7 ⟨a7, c7, rfl, HT7, HB7⟩
  go_wp2_with fail
  refine (HK.out _ _ _ HB7.out HT7.out).mono ?_
  rintro e w8 ⟨rfl, HB8⟩
  go_wp2_with fail
  refine (HS.out _ HB8.out).mono ?_
  rintro e w9 ⟨a9, c9, rfl, HT9, HB9⟩
  go_wp2_with fail
  have hba := (Below.refl _ w9).alloc (Nat.le_refl _) (.cells #[.int .i64 4, .int .i64 0] 3)
  refine (HE.out _ _ _ _ (ball HB9.out hba) (HT9.out.below hba) (four_ints w9)).mono ?_
  rintro e w10 ⟨⟨g, d, rfl⟩, HB10⟩
  clear hba
  go_wp2_with fail
  go_ret
  exact ⟨rfl, HB10.out⟩
end Go.Proofs.YtaiabpbcipnjaaaDoor.Tm
