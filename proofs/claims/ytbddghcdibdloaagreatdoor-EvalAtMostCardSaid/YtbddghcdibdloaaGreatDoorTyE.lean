/- The Sort that the rules say a node has. -/
import Derived.Test.YtbddghcdibdloaaGreatDoorTyD
import Derived.Test.YtbddghcdibdloaaGreatDoorTmC
import Derived.Deep.RegionHeld3
import Derived.BigQuiet
namespace Go.Proofs.YtbddghcdibdloaaGreatDoor
open Go.RowKit
set_option linter.unusedVariables false
def sortAt (l : List Tm.NodeA) (n : Tm.NodeA) (i : Nat) : Int := ((l[(Tm.argA n i).toNat]?).map (·.sort)).getD 0
def sortsL (l : List Tm.NodeA) (n : Tm.NodeA) : List Int := (List.range n.len.toNat).map (sortAt l n)
/-- The Sort that the rules say; whether they say one. -/
def toldA (x : SigA) (l : List Tm.NodeA) (n : Tm.NodeA) : Int × Bool :=
  if ndB x n = true then ((Tm.ofA (ndR x n) (sortsL l n)).1, decide ((Tm.ofA (ndR x n) (sortsL l n)).2 = 0)) else (0, false)
def arrV (l : List Tm.NodeA) (n : Tm.NodeA) (j k : Nat) : Int := if j < k then sortAt l n j else 0
def arrC (l : List Tm.NodeA) (n : Tm.NodeA) (k : Nat) : Array Value := #[.int .i64 (arrV l n 0 k), .int .i64 (arrV l n 1 k), .int .i64 (arrV l n 2 k)]
theorem arr_step {w : World} {b k : Nat} {ty : TypeId} {l : List Tm.NodeA} {n : Tm.NodeA} (h : w.heap[b]? = some (.cells (arrC l n k) ty (0, 0))) (hk : k < 3) : (w.setCell ⟨b, k, none⟩ (.int .i64 (sortAt l n k))).heap[b]? = some (.cells (arrC l n (k + 1)) ty (0, 0)) := by
  have hk : k = 0 ∨ k = 1 ∨ k = 2 := by omega
  rcases hk with rfl | rfl | rfl <;> simp [World.setCell, Array.getElem?_modify, h, arrC, arrV]
theorem arr_cell {w : World} {b k j : Nat} {ty : TypeId} {l : List Tm.NodeA} {n : Tm.NodeA} (h : w.heap[b]? = some (.cells (arrC l n k) ty (0, 0))) (hj : j < 3) : w.cell? ⟨b, j, none⟩ = some (.int .i64 (arrV l n j k)) := by
  have hj : j = 0 ∨ j = 1 ∨ j = 2 := by omega
  rcases hj with rfl | rfl | rfl
  · exact (cell_of_row _ _ 0 _ _ _ h).trans rfl
  · exact (cell_of_row _ _ 1 _ _ _ h).trans rfl
  · exact (cell_of_row _ _ 2 _ _ _ h).trans rfl
theorem node_blk {V : World} {b : Nat} {n : Tm.NodeA} {ty : TypeId} (h : V.heap[b]? = some (.cells #[.int .i8 n.op, .int .i8 n.len, .int .i64 n.a0, .int .i64 n.a1, .int .i64 n.a2, .int .i64 n.sort, .int .i64 n.fn, .int .i64 n.num] ty (0, 0))) : V.cell? ⟨b, 0, none⟩ = some (.int .i8 n.op) ∧ V.cell? ⟨b, 1, none⟩ = some (.int .i8 n.len) ∧ V.cell? ⟨b, 2, none⟩ = some (.int .i64 n.a0) ∧ V.cell? ⟨b, 3, none⟩ = some (.int .i64 n.a1) ∧ V.cell? ⟨b, 4, none⟩ = some (.int .i64 n.a2) ∧ V.cell? ⟨b, 5, none⟩ = some (.int .i64 n.sort) ∧ V.cell? ⟨b, 6, none⟩ = some (.int .i64 n.fn) ∧ V.cell? ⟨b, 7, none⟩ = some (.int .i64 n.num) :=
  ⟨(cell_of_row _ _ 0 _ _ _ h).trans rfl, (cell_of_row _ _ 1 _ _ _ h).trans rfl, (cell_of_row _ _ 2 _ _ _ h).trans rfl, (cell_of_row _ _ 3 _ _ _ h).trans rfl, (cell_of_row _ _ 4 _ _ _ h).trans rfl, (cell_of_row _ _ 5 _ _ _ h).trans rfl, (cell_of_row _ _ 6 _ _ _ h).trans rfl, (cell_of_row _ _ 7 _ _ _ h).trans rfl⟩
theorem arg_blk {V : World} {b k : Nat} {n : Tm.NodeA} {ty : TypeId} (h : V.heap[b]? = some (.cells #[.int .i8 n.op, .int .i8 n.len, .int .i64 n.a0, .int .i64 n.a1, .int .i64 n.a2, .int .i64 n.sort, .int .i64 n.fn, .int .i64 n.num] ty (0, 0))) (hk : k < 3) : V.cell? ⟨b, 2 + k, none⟩ = some (.int .i64 (Tm.argA n k)) := by
  have hk : k = 0 ∨ k = 1 ∨ k = 2 := by omega
  obtain ⟨_, _, h2, h3, h4, _⟩ := node_blk h
  rcases hk with rfl | rfl | rfl
  · exact h2
  · exact h3
  · exact h4
theorem sorts_ints {V : World} {b m : Nat} {ty : TypeId} {l : List Tm.NodeA} {n : Tm.NodeA} (h : V.heap[b]? = some (.cells (arrC l n m) ty (0, 0))) (hm : n.len = m) (h3 : m ≤ 3) (hok : ∀ y ∈ l, Tm.NodeOk y) : Tm.IntsR V (sortsL l n) (some ⟨b, 0, none⟩) 3 ∧ (sortsL l n).length = m := by
  have hl : (sortsL l n).length = m := by unfold sortsL; rw [hm]; simp
  refine ⟨⟨by omega, by unfold maxLen; omega, fun _ => ⟨b, 0, rfl, (Array.getElem?_eq_some_iff.1 h).1, fun i v hv => ?_⟩, fun z hz => ?_⟩, hl⟩
  · unfold sortsL at hv
    rw [hm, Int.toNat_natCast, List.getElem?_map, List.getElem?_map] at hv
    by_cases hi : i < m
    · rw [List.getElem?_range hi] at hv
      simp only [Option.map_some, Option.some.injEq] at hv
      rw [Nat.zero_add, arr_cell h (by omega), ← hv]
      unfold arrV
      rw [if_pos hi]
    · rw [List.getElem?_eq_none (by simp; omega)] at hv
      cases hv
  · unfold sortsL at hz
    obtain ⟨i, _, rfl⟩ := List.mem_map.1 hz
    unfold sortAt
    cases hq : l[(Tm.argA n i).toNat]? with
    | none => exact ⟨by simp, by simp⟩
    | some y => exact (hok y (List.mem_of_getElem? hq)).sort
theorem cell_two {w1 : World} {b i : Nat} {v : Value} (hb : b < w1.heap.size) (h : w1.cell? ⟨b, i, none⟩ = some v) : ∀ o o' : Obj, ((w1.alloc o).alloc o').cell? ⟨b, i, none⟩ = some v := fun o o' => by
  rw [World.cell?_alloc_past _ _ _ (by simp; omega), World.cell?_alloc_past _ _ _ (by exact hb)]
  exact h
set_option maxRecDepth 100000 in
set_option maxHeartbeats 4000000 in
theorem told_any (x : SigV) (l : List Tm.NodeA) (a : Option Addr) (c : Nat) (n : Tm.NodeA) (p : Int × Bool) (w : World) (hG : Tm.GR w) (hR : SigR w x) (hA : Tm.TabR w l a c) (hl : l.length ≤ 1000) (ho : Tm.NodeOk n)
    (hn0 : 0 ≤ n.len) (hn3 : n.len ≤ 3) (har : ∀ i : Nat, (i : Int) < n.len → 0 ≤ Tm.argA n i ∧ Tm.argA n i < l.length)
    (hru : ndB x.a n = true → Tm.RuleOk (ndR x.a n) ∧ (ndR x.a n).many ≤ 3 ∧ ((ndR x.a n).sort = -1 → ∃ i : Nat, (i : Int) < (ndR x.a n).many ∧ Tm.rArg (ndR x.a n) i = -1)) (hp : toldA x.a l n = p) :
    Calls Tryz.prog 52 #[.agg #[.slice x.sa x.sorts.length x.sc, .slice x.fa x.funs.length x.fc, .slice x.ma x.macs.length x.mc], .agg #[.slice a l.length c], .agg #[.int .i8 n.op, .int .i8 n.len, .int .i64 n.a0, .int .i64 n.a1, .int .i64 n.a2, .int .i64 n.sort, .int .i64 n.fn, .int .i64 n.num]] w fun e w' => e = .returned (.tuple #[.int .i64 p.1, .bool p.2]) ∧ Below w.heap.size w w' := by
  obtain ⟨r, hr⟩ : ∃ r, ndR x.a n = r := ⟨_, rfl⟩
  obtain ⟨b, hb⟩ : ∃ b, ndB x.a n = b := ⟨_, rfl⟩
  rw [hr, hb] at hru
  obtain ⟨W0, hW0⟩ : ∃ W0, W0 = ((w.alloc (.cells #[.slice x.sa x.sorts.length x.sc, .slice x.fa x.funs.length x.fc, .slice x.ma x.macs.length x.mc] 34)).alloc (.cells #[.slice a l.length c] 37)).alloc (.cells #[.int .i8 n.op, .int .i8 n.len, .int .i64 n.a0, .int .i64 n.a1, .int .i64 n.a2, .int .i64 n.sort, .int .i64 n.fn, .int .i64 n.num] 41) := ⟨_, rfl⟩
  have hB0 : Below w.heap.size w W0 := by rw [hW0]; exact (((Below.refl _ w).alloc (Nat.le_refl _) _).alloc (by simp) _).alloc (by simp; omega) _
  have hsz : W0.heap.size = w.heap.size + 1 + 1 + 1 := by rw [hW0]; simp
  have hxn : W0.heap[w.heap.size + 1 + 1]? = some (.cells #[.int .i8 n.op, .int .i8 n.len, .int .i64 n.a0, .int .i64 n.a1, .int .i64 n.a2, .int .i64 n.sort, .int .i64 n.fn, .int .i64 n.num] 41 (0, 0)) := by
    rw [hW0]
    have := heap_alloc_new ((w.alloc (.cells #[.slice x.sa x.sorts.length x.sc, .slice x.fa x.funs.length x.fc, .slice x.ma x.macs.length x.mc] 34)).alloc (.cells #[.slice a l.length c] 37)) (.cells #[.int .i8 n.op, .int .i8 n.len, .int .i64 n.a0, .int .i64 n.a1, .int .i64 n.a2, .int .i64 n.sort, .int .i64 n.fn, .int .i64 n.num] 41)
    rwa [World.size_alloc, World.size_alloc] at this
  have hxt : W0.heap[w.heap.size + 1]? = some (.cells #[.slice a l.length c] 37 (0, 0)) := by
    rw [hW0]
    have := mid_new (w.alloc (.cells #[.slice x.sa x.sorts.length x.sc, .slice x.fa x.funs.length x.fc, .slice x.ma x.macs.length x.mc] 34)) (.cells #[.slice a l.length c] 37) (.cells #[.int .i8 n.op, .int .i8 n.len, .int .i64 n.a0, .int .i64 n.a1, .int .i64 n.a2, .int .i64 n.sort, .int .i64 n.fn, .int .i64 n.num] 41)
    rwa [World.size_alloc] at this
  have HNR : Hid (Calls Tryz.prog 60 #[.agg #[.slice x.sa x.sorts.length x.sc, .slice x.fa x.funs.length x.fc, .slice x.ma x.macs.length x.mc], .agg #[.int .i8 n.op, .int .i8 n.len, .int .i64 n.a0, .int .i64 n.a1, .int .i64 n.a2, .int .i64 n.sort, .int .i64 n.fn, .int .i64 n.num]] W0 fun e w' => e = .returned (.tuple #[.agg #[.int .i64 r.many, .int .i64 r.a0, .int .i64 r.a1, .int .i64 r.a2, .int .i64 r.sort], .bool b]) ∧ Below W0.heap.size W0 w') := nodeRule_any x n r b W0 (hG.below hB0) (hR.below hB0) ho hr hb
  have HA0 := Lib.hid (hA.below hB0)
  have HB0 := Lib.hid hB0
  have HX : Hid (∀ V B, W0.heap.size ≤ B → Below B W0 V → V.heap[w.heap.size + 1 + 1]? = some (.cells #[.int .i8 n.op, .int .i8 n.len, .int .i64 n.a0, .int .i64 n.a1, .int .i64 n.a2, .int .i64 n.sort, .int .i64 n.fn, .int .i64 n.num] 41 (0, 0)) ∧ V.heap[w.heap.size + 1]? = some (.cells #[.slice a l.length c] 37 (0, 0))) := fun V B hB hV => ⟨(hV.block _ (by omega)).trans hxn, (hV.block _ (by omega)).trans hxt⟩
  have HAr := Lib.hid har
  have HRu := Lib.hid hru
  have HP1 : Hid (b = false → p = (0, false)) := fun h => by rw [← hp]; unfold toldA; rw [hb, h]; rfl
  have HP2 : Hid (b = true → p = ((Tm.ofA r (sortsL l n)).1, decide ((Tm.ofA r (sortsL l n)).2 = 0))) := fun h => by rw [← hp]; unfold toldA; rw [hb, h, if_pos rfl, hr]
  have HOk := Lib.hid hA.ok
  have hlc := hA.le
  have hcm : c ≤ 9223372036854775807 := by have := hA.cap; unfold maxLen at this; omega
  have HO := Lib.hid ho
  clear hxn hxt hG hR hA hB0 har hru hp ho hr hb
  cases b with
  | false =>
    obtain rfl := HP1.out rfl
    go_enter Tryz.func52, Tryz.ntmps52
    go_wp2_with (go_at_call 60; rw [← hW0]; clear hW0; refine HNR.out.mono ?_; rintro e w1 ⟨rfl, hb1⟩)
    go_ret2
    exact ⟨rfl, (HB0.out.trans (hb1.mono HB0.out.size)).alloc (by have := hb1.size; omega) _⟩
  | true =>
    obtain ⟨r1, r2, r3⟩ := HRu.out rfl
    have HRk := Lib.hid r1
    have HR3 := Lib.hid r3
    obtain ⟨m, hm⟩ : ∃ m : Nat, n.len = m := ⟨n.len.toNat, by omega⟩
    obtain ⟨⟨q1, q2⟩, hq⟩ : ∃ z, Tm.ofA r (sortsL l n) = z := ⟨_, rfl⟩
    have hpq := HP2.out rfl
    rw [hq] at hpq
    obtain rfl := hpq
    have hm3 : m ≤ 3 := by omega
    have hm3i : (m : Int) ≤ 3 := by omega
    have hm0i : (0 : Int) ≤ m := by omega
    have HM := Lib.hid hm
    have HQ := Lib.hid hq
    clear r1 r3 HRu HP1 HP2 hq hm hn0 hn3
    go_enter Tryz.func52, Tryz.ntmps52
    go_wp2_with (go_at_call 60; rw [← hW0]; clear hW0; refine HNR.out.mono ?_; rintro e w1 ⟨rfl, hb1⟩; have HB1 := Lib.hid hb1; obtain ⟨hn1, ht1⟩ := HX.out w1 _ (Nat.le_refl _) hb1; obtain ⟨n0, n1, n2, n3, n4, n5, n6, n7⟩ := node_blk hn1; clear hn1 ht1; have hq1 : w.heap.size + 1 + 1 < w1.heap.size := (by have := hb1.size; omega); rw [HM.out] at n1; have n1q := cell_two hq1 n1)
    have HR4 := Lib.hid (mid_new w1 (.cells #[.int .i64 r.many, .int .i64 r.a0, .int .i64 r.a1, .int .i64 r.a2, .int .i64 r.sort] 108) (.cells #[.int .i64 0, .int .i64 0, .int .i64 0] 106))
    have h4 := heap_alloc_new (w1.alloc (.cells #[.int .i64 r.many, .int .i64 r.a0, .int .i64 r.a1, .int .i64 r.a2, .int .i64 r.sort] 108)) (.cells #[.int .i64 0, .int .i64 0, .int .i64 0] 106)
    rw [World.size_alloc] at h4
    have HA4 := Lib.hid h4
    have HB4 : Hid (Below W0.heap.size W0 ((w1.alloc (.cells #[.int .i64 r.many, .int .i64 r.a0, .int .i64 r.a1, .int .i64 r.a2, .int .i64 r.sort] 108)).alloc (.cells #[.int .i64 0, .int .i64 0, .int .i64 0] 106))) := (HB1.out.alloc HB1.out.size _).alloc (by have := HB1.out.size; simp; omega) _
    have hs4 : ((w1.alloc (.cells #[.int .i64 r.many, .int .i64 r.a0, .int .i64 r.a1, .int .i64 r.a2, .int .i64 r.sort] 108)).alloc (.cells #[.int .i64 0, .int .i64 0, .int .i64 0] 106)).heap.size = w1.heap.size + 1 + 1 := by simp
    generalize ((w1.alloc (.cells #[.int .i64 r.many, .int .i64 r.a0, .int .i64 r.a1, .int .i64 r.a2, .int .i64 r.sort] 108)).alloc (.cells #[.int .i64 0, .int .i64 0, .int .i64 0] 106)) = W4 at HR4 HA4 HB4 hs4 ⊢
    have hw01 : W0.heap.size ≤ w1.heap.size := HB1.out.size
    clear n0 n1 n2 n3 n4 n5 n6 n7 n1q hb1 h4 HB1
    go_loopw [28] (fun i wr => ∃ k : Nat, k ≤ m ∧ i = .int .i64 k ∧ Hid (wr.heap[w1.heap.size + 1]? = some (.cells (arrC l n k) 106 (0, 0))) ∧ Hid (Below (w1.heap.size + 1) W4 wr)) (fun i _ => m - (intOf i).toNat)
    case atStart => exact ⟨0, Nat.zero_le _, rfl, HA4.out, Below.refl _ _⟩
    case round =>
      obtain ⟨k, hk, rfl, HC, HW⟩ := hrel
      have hxw := HX.out wr W0.heap.size (Nat.le_refl _) (HB4.out.trans (HW.out.mono (by omega)))
      have hsw : w1.heap.size + 1 < wr.heap.size := by have := HW.out.size; omega
      by_cases hlt : k < m
      · obtain ⟨ha1, ha2⟩ := HAr.out k (by rw [HM.out]; omega)
        obtain ⟨q, hq⟩ : ∃ q : Nat, Tm.argA n k = q := ⟨(Tm.argA n k).toNat, by omega⟩
        have hql : q < l.length := by omega
        obtain ⟨y, hy⟩ : ∃ y, l[q]? = some y := ⟨_, List.getElem?_eq_getElem hql⟩
        have hya : sortAt l n k = y.sort := by unfold sortAt; rw [hq, Int.toNat_natCast, hy]; rfl
        obtain ⟨g, o, rfl, _, _, _, _, _, _, y5, _, _⟩ := (HA0.out.below (HB4.out.trans (HW.out.mono (by omega)))).node hy
        have c1 := arg_blk hxw.1 (k := k) (by omega)
        rw [hq] at c1
        have c2 := (cell_of_row _ _ 0 _ _ _ hxw.2).trans (show _ = some (.slice (some ⟨g, o, none⟩) l.length c) from rfl)
        have c3 := arr_cell HC.out (j := k) (by omega)
        have c4 : wr.frozen? ⟨w1.heap.size + 1, k, none⟩ = false := by simp [World.frozen?, HC.out]
        have hst := arr_step HC.out (k := k) (by omega)
        rw [hya] at hst
        have HST := Lib.hid hst
        clear hst hya hy hq ha1 ha2 hxw
        go_wp2
        go_roundw
        case rel => exact ⟨k + 1, by omega, by go_num, HST.out, HW.out.setCell (p := ⟨w1.heap.size + 1, k, none⟩) (Nat.le_refl _) _⟩
        case measure => simp [intOf]; omega
      · obtain rfl : k = m := by omega
        obtain ⟨hI, hIl⟩ := sorts_ints HC.out HM.out hm3 HOk.out
        have hr4 := (HW.out.block w1.heap.size (by omega)).trans HR4.out
        obtain ⟨x0, x1, x2, x3, x4⟩ := Tm.rule_cells hr4
        obtain ⟨_, n1, _⟩ := node_blk hxw.1
        rw [HM.out] at n1
        have HCo : Hid (∀ V, Below wr.heap.size wr V → Calls Tryz.prog 61 #[.agg #[.int .i64 r.many, .int .i64 r.a0, .int .i64 r.a1, .int .i64 r.a2, .int .i64 r.sort], .slice (some ⟨w1.heap.size + 1, 0, none⟩) k 3] V fun e w' => e = .returned (.tuple #[.int .i64 q1, .int .i64 q2]) ∧ Below V.heap.size V w') := fun V hV => by
          have := Tm.of_any r (sortsL l n) (some ⟨w1.heap.size + 1, 0, none⟩) 3 (q1, q2) V (hI.below hV) HRk.out (by omega) r2 HR3.out HQ.out
          rw [hIl] at this
          exact this
        have HBw : Hid (Below w.heap.size w wr) := HB0.out.trans ((HB4.out.trans (HW.out.mono (by omega))).mono HB0.out.size)
        have H0 : Hid (wr.cell? ⟨w1.heap.size, 0, none⟩ = some (.int .i64 r.many) ∧ wr.cell? ⟨w1.heap.size, 1, none⟩ = some (.int .i64 r.a0) ∧ wr.cell? ⟨w1.heap.size, 2, none⟩ = some (.int .i64 r.a1) ∧ wr.cell? ⟨w1.heap.size, 3, none⟩ = some (.int .i64 r.a2) ∧ wr.cell? ⟨w1.heap.size, 4, none⟩ = some (.int .i64 r.sort) ∧ wr.cell? ⟨w.heap.size + 1 + 1, 1, none⟩ = some (.int .i8 k)) := ⟨x0, x1, x2, x3, x4, n1⟩
        have hz1 : w1.heap.size < wr.heap.size := by omega
        have hz2 : w.heap.size + 1 + 1 < wr.heap.size := by omega
        clear hI hIl hr4 hxw hlt
        by_cases hq2 : q2 = 0
        · have e0 := Tm.eq_t hq2
          have e1 := decide_eq_true hq2
          have HE := Lib.hid e1
          clear e1 hq2
          go_wp2
          go_region_held3 (fun W => W.cell? ⟨w1.heap.size, 0, none⟩ = some (.int .i64 r.many) ∧ W.cell? ⟨w1.heap.size, 1, none⟩ = some (.int .i64 r.a0) ∧ W.cell? ⟨w1.heap.size, 2, none⟩ = some (.int .i64 r.a1) ∧ W.cell? ⟨w1.heap.size, 3, none⟩ = some (.int .i64 r.a2) ∧ W.cell? ⟨w1.heap.size, 4, none⟩ = some (.int .i64 r.sort) ∧ W.cell? ⟨w.heap.size + 1 + 1, 1, none⟩ = some (.int .i8 k))
            (first | exact H0.out | exact ⟨(hc1 _ _ hz1).trans H0.out.1, (hc1 _ _ hz1).trans H0.out.2.1, (hc1 _ _ hz1).trans H0.out.2.2.1, (hc1 _ _ hz1).trans H0.out.2.2.2.1, (hc1 _ _ hz1).trans H0.out.2.2.2.2.1, (hc1 _ _ hz2).trans H0.out.2.2.2.2.2⟩ | go_keep)
            (first | (go_at_call 61; refine (HCo.out _ (by first | exact (Below.refl _ wr).drew | exact Below.refl _ wr)).mono ?_; rintro e w2 ⟨rfl, hb2⟩; obtain ⟨hc1, hf1⟩ := bcell hb2))
          go_wp2
          go_ret2
          exact ⟨by rw [HE.out]; rfl, HBw.out.drew.trans (hb2.mono HBw.out.size)⟩
        · have e0 := Tm.eq_f hq2
          have e1 := decide_eq_false hq2
          have HE := Lib.hid e1
          clear e1 hq2
          go_wp2
          go_region_held3 (fun W => W.cell? ⟨w1.heap.size, 0, none⟩ = some (.int .i64 r.many) ∧ W.cell? ⟨w1.heap.size, 1, none⟩ = some (.int .i64 r.a0) ∧ W.cell? ⟨w1.heap.size, 2, none⟩ = some (.int .i64 r.a1) ∧ W.cell? ⟨w1.heap.size, 3, none⟩ = some (.int .i64 r.a2) ∧ W.cell? ⟨w1.heap.size, 4, none⟩ = some (.int .i64 r.sort) ∧ W.cell? ⟨w.heap.size + 1 + 1, 1, none⟩ = some (.int .i8 k))
            (first | exact H0.out | exact ⟨(hc1 _ _ hz1).trans H0.out.1, (hc1 _ _ hz1).trans H0.out.2.1, (hc1 _ _ hz1).trans H0.out.2.2.1, (hc1 _ _ hz1).trans H0.out.2.2.2.1, (hc1 _ _ hz1).trans H0.out.2.2.2.2.1, (hc1 _ _ hz2).trans H0.out.2.2.2.2.2⟩ | go_keep)
            (first | (go_at_call 61; refine (HCo.out _ (by first | exact (Below.refl _ wr).drew | exact Below.refl _ wr)).mono ?_; rintro e w2 ⟨rfl, hb2⟩; obtain ⟨hc1, hf1⟩ := bcell hb2))
          go_wp2
          go_ret2
          exact ⟨by rw [HE.out]; rfl, HBw.out.drew.trans (hb2.mono HBw.out.size)⟩
end Go.Proofs.YtbddghcdibdloaaGreatDoor
