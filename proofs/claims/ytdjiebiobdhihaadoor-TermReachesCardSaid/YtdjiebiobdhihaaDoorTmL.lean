/- Package term's Check, Same, Cut. -/
import Derived.Test.YtdjiebiobdhihaaDoorTmK
namespace Go.Proofs.YtdjiebiobdhihaaDoor
open Go.RowKit
set_option linter.unusedVariables false
def errB (b : Bool) : Int := if b = true then 0 else 2
theorem Check_any (l : List NodeA) (a : Option Addr) (c : Nat) (r : Int) (w : World) (hG : GT w) (hA : TabR w l a c) (hl : l.length ≤ 1000) (hr : errB (mayT l) = r) :
    Calls Tryd.prog 11 #[.agg #[.slice a l.length c]] w fun e w' => e = .returned (.int .i64 r) ∧ Below w.heap.size w w' := by
  obtain ⟨W0, hW0⟩ : ∃ W0, W0 = w.alloc (.cells #[.slice a l.length c] 24) := ⟨_, rfl⟩
  have hB0 : Below w.heap.size w W0 := by rw [hW0]; exact (Below.refl _ w).alloc (Nat.le_refl _) _
  have HI : Hid (Calls Tryd.prog 21 #[.agg #[.slice a l.length c]] W0 fun e w' => (∃ v, e = .returned (.tuple #[v, .bool (mayT l)])) ∧ Below W0.heap.size W0 w') := by
    refine (index_any l a c W0 (hG.below hB0) (hA.below hB0) hl).mono ?_
    rintro e w' ⟨hb, ⟨hm, b, rfl, _⟩ | ⟨hm, rfl⟩⟩
    · rw [hm]; exact ⟨⟨_, rfl⟩, hb⟩
    · rw [hm]; exact ⟨⟨_, rfl⟩, hb⟩
  have HB0 := Lib.hid hB0
  clear hG hA hB0
  cases hm : mayT l with
  | true =>
    rw [hm] at HI hr
    have h0 : (0 : Int) = r := hr
    subst h0
    clear hm hr
    go_enter Tryd.func11, Tryd.ntmps11
    go_wp2_with (go_at_call 21; rw [← hW0]; clear hW0; refine HI.out.mono ?_; rintro e w1 ⟨⟨v, rfl⟩, hb1⟩)
    go_ret
    exact ⟨rfl, HB0.out.trans (hb1.mono HB0.out.size)⟩
  | false =>
    rw [hm] at HI hr
    have h0 : (2 : Int) = r := hr
    subst h0
    clear hm hr
    go_enter Tryd.func11, Tryd.ntmps11
    go_wp2_with (go_at_call 21; rw [← hW0]; clear hW0; refine HI.out.mono ?_; rintro e w1 ⟨⟨v, rfl⟩, hb1⟩)
    go_ret
    exact ⟨rfl, HB0.out.trans (hb1.mono HB0.out.size)⟩
theorem Same_any (l m : List NodeA) (a b : Option Addr) (c d : Nat) (r : Bool) (w : World) (hA : TabR w l a c) (hB : TabR w m b d) (hr : decide (l = m) = r) :
    Calls Tryd.prog 13 #[.agg #[.slice a l.length c], .agg #[.slice b m.length d]] w fun e w' => e = .returned (.bool r) ∧ Below w.heap.size w w' := by
  obtain ⟨W0, hW0⟩ : ∃ W0, W0 = (w.alloc (.cells #[.slice a l.length c] 24)).alloc (.cells #[.slice b m.length d] 24) := ⟨_, rfl⟩
  have hB0 : Below w.heap.size w W0 := by rw [hW0]; exact ((Below.refl _ w).alloc (Nat.le_refl _) _).alloc (by simp) _
  have HE : Hid (Calls Tryd.prog 24 #[.slice a l.length c, .slice b m.length d] W0 fun e w' => e = .returned (.bool r) ∧ Below W0.heap.size W0 w') := by
    rw [← hr]; exact Equal_any l m a b c d W0 (hA.below hB0) (hB.below hB0)
  have HB0 := Lib.hid hB0
  clear hA hB hB0 hr
  go_enter Tryd.func13, Tryd.ntmps13
  go_wp2_with (go_at_call 24; rw [← hW0]; clear hW0; refine HE.out.mono ?_; rintro e w1 ⟨rfl, hb1⟩)
  go_ret
  exact ⟨rfl, HB0.out.trans (hb1.mono HB0.out.size)⟩
/-- What Cut answers of a table that may be, and a number of its nodes that may be. -/
def CutPost (w : World) (l : List NodeA) (n : Nat) (e : Ending) (w' : World) : Prop := ∃ L a c, L = l.take n ∧ e = .returned (.tuple #[.agg #[.slice a L.length c], .int .i64 0]) ∧ TabR w' L a c ∧ Below w.heap.size w w'
set_option maxRecDepth 100000 in
theorem Cut_any (l : List NodeA) (a : Option Addr) (c n : Nat) (w : World) (hG : GT w) (hA : TabR w l a c) (hl : l.length ≤ 1000) (hm : mayT l = true) (hn2 : 2 ≤ n) (hn : n ≤ l.length) :
    Calls Tryd.prog 12 #[.agg #[.slice a l.length c], .int .i64 n] w (CutPost w l n) := by
  obtain ⟨W0, hW0⟩ : ∃ W0, W0 = (w.alloc (.cells #[.slice a l.length c] 24)).alloc (.cells #[.slice none 0 0] 24) := ⟨_, rfl⟩
  have hB0 : Below w.heap.size w W0 := by rw [hW0]; exact ((Below.refl _ w).alloc (Nat.le_refl _) _).alloc (by simp) _
  have hsz : W0.heap.size = w.heap.size + 2 := by rw [hW0]; simp
  have hX0 : W0.heap[w.heap.size]? = some (.cells #[.slice a l.length c] 24 (0, 0)) := by rw [hW0]; exact (Below.heap_alloc _ _ _ (by simp)).trans (heap_alloc_new w _)
  have hY0 : W0.heap[w.heap.size + 1]? = some (.cells #[.slice none 0 0] 24 (0, 0)) := by
    have := heap_alloc_new (w.alloc (.cells #[.slice a l.length c] 24)) (.cells #[.slice none 0 0] 24)
    rw [World.size_alloc] at this
    rw [hW0]; exact this
  have HCk : Hid (Calls Tryd.prog 11 #[.agg #[.slice a l.length c]] W0 fun e w' => e = .returned (.int .i64 0) ∧ Below W0.heap.size W0 w') := Check_any l a c 0 W0 (hG.below hB0) (hA.below hB0) hl (by rw [hm]; rfl)
  have HF : Hid (∀ V, Below w.heap.size w V → Calls Tryd.prog 23 #[.agg #[.slice a l.length c], .int .i64 n] V (FirstPost V (l.take n))) := fun V hV => first_any l a c n V (hA.below hV) hn (by omega) hl
  have HSK : Hid (∀ V, Below W0.heap.size W0 V → V.cell? ⟨w.heap.size, 0, none⟩ = some (.slice a l.length c) ∧ V.cell? ⟨w.heap.size + 1, 0, none⟩ = some (.slice none 0 0) ∧ (∀ i, V.frozen? ⟨w.heap.size + 1, i, none⟩ = false) ∧ w.heap.size + 1 < V.heap.size ∧ w.heap.size < V.heap.size) := fun V hV => by
    have e0 := (hV.block _ (by omega)).trans hX0
    have e1 := (hV.block _ (by omega)).trans hY0
    have a0 := cell_of_row _ _ 0 _ _ _ e0
    have a1 := cell_of_row _ _ 0 _ _ _ e1
    simp only [List.getElem?_toArray, List.getElem?_cons_zero] at a0 a1
    exact ⟨a0, a1, fun i => by simp [World.frozen?, e1], by have := hV.size; omega, by have := hV.size; omega⟩
  have hln : (l.take n).length = n := by simp; omega
  have HOk : Hid (∀ x ∈ l.take n, NodeOk x) := fun x hx => hA.ok x (List.mem_of_mem_take hx)
  have HB0 := Lib.hid hB0
  have HLN := Lib.hid hln
  obtain ⟨a0, a1, af, az, az0⟩ := HSK.out _ (Below.refl _ _)
  clear hG hA hm hB0 hX0 hY0 hln
  have hge : (2 : Int) ≤ (n : Int) := by omega
  go_enter Tryd.func12, Tryd.ntmps12
  go_wp2_with (first | (go_at_call 11; rw [← hW0]; clear hW0; refine HCk.out.mono ?_; rintro e w1 ⟨rfl, hb1⟩; clear a0 a1 af az az0; obtain ⟨a0, a1, af, az, az0⟩ := HSK.out _ hb1) | (go_at_call 23; refine (HF.out _ (HB0.out.trans (hb1.mono HB0.out.size))).mono ?_; rintro e w2 ⟨v, rfl, hown, hb2⟩; rw [HLN.out] at hown; have HO := Lib.hid hown; clear hown; have hb12 := hb1.trans (hb2.mono hb1.size); clear a0 a1 af az az0; obtain ⟨a0, a1, af, az, az0⟩ := HSK.out _ hb12; obtain ⟨av, cv, rfl, _⟩ := own_at HO.out))
  have hr : (w2.setCell ⟨w.heap.size + 1, 0, none⟩ (.slice av n cv)).cell? ⟨w.heap.size + 1, 0, none⟩ = some (.slice av n cv) := World.cell?_setCell_same' _ _ _ (by rw [a1]; rfl)
  have hO2 : (w2.setCell ⟨w.heap.size + 1, 0, none⟩ (.slice av n cv)).ownsRow w1.heap.size 28 8 (.slice av n cv) (l.take n).length ((l.take n).flatMap nodeC) := by
    rw [HLN.out]
    exact own_heap HO.out (fun k hk _ => Below.heap_setCell _ _ _ _ (by show k ≠ w.heap.size + 1; have := hb1.size; omega))
  obtain ⟨a', c', he, hT⟩ := own_tab hO2 HOk.out
  rw [HLN.out] at he
  cases he
  refine bodyPost_ret (v := .tuple #[.agg #[.slice av n cv], .int .i64 0]) (by simp [results, Tryd.results12, go_sem, hr]) rfl ⟨l.take n, av, cv, rfl, by rw [HLN.out], hT, ?_⟩
  exact (HB0.out.trans (hb12.mono HB0.out.size)).setCell (p := ⟨w.heap.size + 1, 0, none⟩) (by simp) _
end Go.Proofs.YtdjiebiobdhihaaDoor
