/- Package offset's of and Of. -/
import Derived.Test.YtgjidlfemfomcaaDoorOfC
namespace Go.Proofs.YtgjidlfemfomcaaDoor
open Go.RowKit
set_option linter.unusedVariables false
/-- What of tells of a table that may be. -/
def ofP (l : List NodeA) (id : Int) : Int × Int × Int :=
  if id < 0 ∨ l.length ≤ id then (0, 0, 2) else match l[id.toNat]? with
    | none => (0, 0, 2)
    | some n => if n.sort = 1 then (if (rootA l id.toNat).2.2 = 0 then ((rootA l id.toNat).1, (rootA l id.toNat).2.1, 0) else (0, 0, (rootA l id.toNat).2.2)) else (0, 0, 33)
theorem ofP_out {l : List NodeA} {id : Int} (h : id < 0 ∨ l.length ≤ id) : ofP l id = (0, 0, 2) := if_pos h
theorem ofP_sort {l : List NodeA} {k : Nat} {n : NodeA} (h : l[k]? = some n) (hs : ¬ n.sort = 1) : ofP l k = (0, 0, 33) := by
  have hlt := (List.getElem?_eq_some_iff.1 h).1
  unfold ofP
  rw [if_neg (by omega), Int.toNat_natCast, h]
  exact if_neg hs
theorem ofP_err {l : List NodeA} {k : Nat} {n : NodeA} (h : l[k]? = some n) (hs : n.sort = 1) (he : ¬ (rootA l k).2.2 = 0) : ofP l k = (0, 0, (rootA l k).2.2) := by
  have hlt := (List.getElem?_eq_some_iff.1 h).1
  unfold ofP
  rw [if_neg (by omega), Int.toNat_natCast, h]
  simp only
  rw [if_pos hs, if_neg he]
theorem ofP_ok {l : List NodeA} {k : Nat} {n : NodeA} (h : l[k]? = some n) (hs : n.sort = 1) (he : (rootA l k).2.2 = 0) : ofP l k = (((rootA l k).1 : Int), (rootA l k).2.1, 0) := by
  have hlt := (List.getElem?_eq_some_iff.1 h).1
  unfold ofP
  rw [if_neg (by omega), Int.toNat_natCast, h]
  simp only
  rw [if_pos hs, if_pos he]
set_option maxRecDepth 100000 in
set_option maxHeartbeats 4000000 in
theorem of_any (l : List NodeA) (a : Option Addr) (c : Nat) (id : Int) (r : Int × Int × Int) (w : World) (hA : TabR w l a c) (hm : mayT l = true) (hl : l.length ≤ 1000) (hi : I64 id) (hr : ofP l id = r) :
    Calls Tryd.prog 22 #[.agg #[.slice a l.length c], .int .i64 id] w fun e w' => e = .returned (.tuple #[.int .i64 r.1, .int .i64 r.2.1, .int .i64 r.2.2]) ∧ Below w.heap.size w w' := by
  have HB0 : Hid (Below w.heap.size w (w.alloc (.cells #[.slice a l.length c] 24))) := (Below.refl _ w).alloc (Nat.le_refl _) _
  obtain ⟨hi1, hi2⟩ := hi
  by_cases h0 : id < 0
  · obtain rfl : (0, 0, 2) = r := (ofP_out (.inl h0)).symm.trans hr
    clear hA hr
    go_enter Tryd.func22, Tryd.ntmps22
    go_wp2
    refine bodyPost_ret (v := .tuple #[.int .i64 0, .int .i64 0, .int .i64 2]) (by simp [results, Tryd.results22, go_sem]) rfl ⟨rfl, HB0.out⟩
  by_cases h1 : (l.length : Int) ≤ id
  · obtain rfl : (0, 0, 2) = r := (ofP_out (.inr h1)).symm.trans hr
    clear hA hr
    go_enter Tryd.func22, Tryd.ntmps22
    go_wp2
    refine bodyPost_ret (v := .tuple #[.int .i64 0, .int .i64 0, .int .i64 2]) (by simp [results, Tryd.results22, go_sem]) rfl ⟨rfl, HB0.out⟩
  obtain ⟨k, rfl⟩ : ∃ k : Nat, id = k := ⟨id.toNat, by omega⟩
  have hkl : k < l.length := by omega
  obtain ⟨n, hn⟩ : ∃ n, l[k]? = some n := ⟨_, List.getElem?_eq_getElem hkl⟩
  obtain ⟨W0, hW0⟩ : ∃ W0, W0 = w.alloc (.cells #[.slice a l.length c] 24) := ⟨_, rfl⟩
  rw [← hW0] at HB0
  have hx0 : W0.heap[w.heap.size]? = some (.cells #[.slice a l.length c] 24 (0, 0)) := by rw [hW0]; exact heap_alloc_new w _
  have t0 : W0.cell? ⟨w.heap.size, 0, none⟩ = some (.slice a l.length c) := (cell_of_row _ _ 0 _ _ _ hx0).trans rfl
  have tz : w.heap.size < W0.heap.size := (Array.getElem?_eq_some_iff.1 hx0).1
  obtain ⟨g, o, rfl, hg, q0, q1, q2, q3, q4, q5, q6, q7⟩ := hA.node hn
  have hcap := hA.le
  have HR : Hid (Calls Tryd.prog 37 #[.agg #[.slice (some ⟨g, o, none⟩) l.length c], .int .i64 k] W0 fun e w' => e = .returned (.tuple #[.int .i64 (rootA l k).1, .agg #[.int .i64 (rootA l k).2.1, .int .i64 (rootA l k).2.2]]) ∧ Below W0.heap.size W0 w') := root_any l _ c k W0 (hA.below HB0.out) hm hkl hl
  clear hA hm hx0 q0 q1 q2 q3 q4 q6 q7
  by_cases hs : n.sort = 1
  rotate_left
  · obtain rfl : (0, 0, 33) = r := (ofP_sort hn hs).symm.trans hr
    have e0 := ne_t hs
    clear hr hs hn
    go_enter Tryd.func22, Tryd.ntmps22
    go_wp2
    refine bodyPost_ret (v := .tuple #[.int .i64 0, .int .i64 0, .int .i64 33]) (by simp [results, Tryd.results22, go_sem]) rfl ⟨rfl, by rw [hW0] at HB0; exact HB0.out⟩
  have e0 := ne_f hs
  by_cases he : (rootA l k).2.2 = 0
  · obtain rfl := (ofP_ok hn hs he).symm.trans hr
    obtain ⟨b, hb⟩ : ∃ b, (rootA l k).1 = b := ⟨_, rfl⟩
    obtain ⟨v, hv⟩ : ∃ v, (rootA l k).2.1 = v := ⟨_, rfl⟩
    rw [he, hb, hv] at HR
    rw [hb, hv]
    clear hr hs hn he hb hv
    go_enter Tryd.func22, Tryd.ntmps22
    go_wp2_with (go_at_call 37; rw [← hW0]; clear hW0; refine HR.out.mono ?_; rintro e w1 ⟨rfl, hb1⟩; have HB1 : Hid (Below w.heap.size w w1) := HB0.out.trans (hb1.mono HB0.out.size); clear hb1 q5 t0)
    go_quiet (fail)
    go_wp2
    refine bodyPost_ret (v := .tuple #[.int .i64 b, .int .i64 v, .int .i64 0]) (by simp [results, Tryd.results22, go_sem]) rfl ⟨rfl, below_drewN (HB1.out.alloc HB1.out.size _)⟩
  · obtain rfl := (ofP_err hn hs he).symm.trans hr
    obtain ⟨v, hv⟩ : ∃ v, (rootA l k).2.2 = v := ⟨_, rfl⟩
    rw [hv] at he HR
    rw [hv]
    have e1 := ne_t he
    clear hr hs hn he hv
    go_enter Tryd.func22, Tryd.ntmps22
    go_wp2_with (go_at_call 37; rw [← hW0]; clear hW0; refine HR.out.mono ?_; rintro e w1 ⟨rfl, hb1⟩; have HB1 : Hid (Below w.heap.size w w1) := HB0.out.trans (hb1.mono HB0.out.size); clear hb1 q5 t0)
    go_quiet (fail)
    go_wp2
    refine bodyPost_ret (v := .tuple #[.int .i64 0, .int .i64 0, .int .i64 v]) (by simp [results, Tryd.results22, go_sem]) rfl ⟨rfl, below_drewN (HB1.out.alloc HB1.out.size _)⟩
def OfP (l : List NodeA) (id : Int) : Int × Int × Int := if mayT l = true then ofP l id else (0, 0, 2)
theorem Of_any (l : List NodeA) (a : Option Addr) (c : Nat) (id : Int) (r : Int × Int × Int) (w : World) (hG : GT w) (hA : TabR w l a c) (hl : l.length ≤ 1000) (hi : I64 id) (hr : OfP l id = r) :
    Calls Tryd.prog 10 #[.agg #[.slice a l.length c], .int .i64 id] w fun e w' => e = .returned (.tuple #[.int .i64 r.1, .int .i64 r.2.1, .int .i64 r.2.2]) ∧ Below w.heap.size w w' := by
  obtain ⟨W0, hW0⟩ : ∃ W0, W0 = w.alloc (.cells #[.slice a l.length c] 24) := ⟨_, rfl⟩
  have HB0 : Hid (Below w.heap.size w W0) := by show Below _ _ _; rw [hW0]; exact (Below.refl _ w).alloc (Nat.le_refl _) _
  have HX : Hid (∀ V, Below W0.heap.size W0 V → V.cell? ⟨w.heap.size, 0, none⟩ = some (.slice a l.length c) ∧ w.heap.size < V.heap.size) := fun V hV => by
    have hx0 : W0.heap[w.heap.size]? = some (.cells #[.slice a l.length c] 24 (0, 0)) := by rw [hW0]; exact heap_alloc_new w _
    have e0 := (hV.block _ (Array.getElem?_eq_some_iff.1 hx0).1).trans hx0
    exact ⟨(cell_of_row _ _ 0 _ _ _ e0).trans rfl, (Array.getElem?_eq_some_iff.1 e0).1⟩
  cases hm : mayT l with
  | false =>
    have HC : Hid (Calls Tryd.prog 21 #[.agg #[.slice a l.length c]] W0 fun e w' => e = .returned (.int .i64 2) ∧ Below W0.heap.size W0 w') := Check_any l a c 2 W0 (hG.below HB0.out) (hA.below HB0.out) hl (by rw [hm]; rfl)
    obtain rfl : (0, 0, 2) = r := by rw [← hr]; unfold OfP; rw [if_neg (by rw [hm]; decide)]
    clear hA hG hm hr
    go_enter Tryd.func10, Tryd.ntmps10
    go_wp2_with (go_at_call 21; rw [← hW0]; clear hW0; refine HC.out.mono ?_; rintro e w1 ⟨rfl, hb1⟩)
    refine bodyPost_ret (v := .tuple #[.int .i64 0, .int .i64 0, .int .i64 2]) (by simp [results, Tryd.results10, go_sem]) rfl ⟨rfl, HB0.out.trans (hb1.mono HB0.out.size)⟩
  | true =>
    have HC : Hid (Calls Tryd.prog 21 #[.agg #[.slice a l.length c]] W0 fun e w' => e = .returned (.int .i64 0) ∧ Below W0.heap.size W0 w') := Check_any l a c 0 W0 (hG.below HB0.out) (hA.below HB0.out) hl (by rw [hm]; rfl)
    have hr2 : ofP l id = r := by rw [← hr]; unfold OfP; rw [if_pos hm]
    have HO : Hid (∀ V, Below w.heap.size w V → Calls Tryd.prog 22 #[.agg #[.slice a l.length c], .int .i64 id] V fun e w' => e = .returned (.tuple #[.int .i64 r.1, .int .i64 r.2.1, .int .i64 r.2.2]) ∧ Below V.heap.size V w') := fun V hV => of_any l a c id r V (hA.below hV) hm hl hi hr2
    clear hA hG hm hr hr2 hi
    obtain ⟨r0, r1, r2⟩ := r
    go_enter Tryd.func10, Tryd.ntmps10
    go_wp2_with (first | (go_at_call 21; rw [← hW0]; clear hW0; refine HC.out.mono ?_; rintro e w1 ⟨rfl, hb1⟩; have HB1 : Hid (Below w.heap.size w w1) := HB0.out.trans (hb1.mono HB0.out.size); obtain ⟨t0, tz⟩ := HX.out _ hb1; clear hb1) | (go_at_call 22; refine (HO.out _ HB1.out).mono ?_; rintro e w2 ⟨rfl, hb2⟩))
    refine bodyPost_ret (v := .tuple #[.int .i64 r0, .int .i64 r1, .int .i64 r2]) (by simp [results, Tryd.results10, go_sem]) rfl ⟨rfl, HB1.out.trans (hb2.mono HB1.out.size)⟩
end Go.Proofs.YtgjidlfemfomcaaDoor
