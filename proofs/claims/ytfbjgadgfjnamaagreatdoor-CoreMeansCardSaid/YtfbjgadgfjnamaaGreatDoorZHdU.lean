/- The document's value: a node's, of its arguments' values. -/
import Derived.Test.YtfbjgadgfjnamaaGreatDoorZHdS
namespace Go.Proofs.YtfbjgadgfjnamaaGreatDoor
open Go.RowKit
open Tm (NodeA NodeOk TabR mayT)
set_option linter.unusedVariables false
def bitN (q : Bool) : Int := if q = true then 1 else 0
/-- A node's value, and whether it is one. -/
def ndV (x : SigV) (y : WorV) (n : NodeA) (v : List Int) : Int × Bool :=
  if n.op = 0 then (1, true) else if n.op = 1 then (wrap64 (1 - v.getD 0 0), true) else if n.op = 2 then (wrap64 (v.getD 0 0 * v.getD 1 0), true)
  else if n.op = 3 then (max (v.getD 0 0) (v.getD 1 0), true) else if n.op = 4 then (bitN (!decide (v.getD 0 0 = v.getD 1 0)), true) else if n.op = 5 then (bitN (decide (v.getD 0 0 ≤ v.getD 1 0)), true)
  else if n.op = 6 then (bitN (decide (v.getD 0 0 = v.getD 1 0)), true) else if n.op = 7 then (if v.getD 0 0 = 1 then v.getD 1 0 else v.getD 2 0, true) else if n.op = 8 then (bitN (decide (v.getD 0 0 ≤ v.getD 1 0)), true)
  else if n.op = 9 then (bitN (decide (v.getD 0 0 < v.getD 1 0)), true) else if n.op = 10 then (n.num, true)
  else if n.op = 11 then (if 2305843009213693953 < wrap64 (wrap64 ((v.getD 0 0).tdiv 2) + wrap64 (n.num.tdiv 2)) ∨ wrap64 (wrap64 ((v.getD 0 0).tdiv 2) + wrap64 (n.num.tdiv 2)) < -2305843009213693953 then (0, false) else (wrap64 (v.getD 0 0 + n.num), mayB (wrap64 (v.getD 0 0 + n.num))))
  else if n.op = 12 then (bitN (atM (v.getD 0 0) (v.getD 1 0) n.num), true) else (applyV x y n.fn v, true)
set_option maxRecDepth 100000 in
set_option maxHeartbeats 4000000 in
theorem value_any (x : SigV) (y : WorV) (n : NodeA) (v : List Int) (va : Option Addr) (vc : Nat) (X : Int) (q : Bool) (w : World) (hX : SigR w x) (hY : WorR w y) (hn : NodeOk n) (hv : At w w.heap.size (v.flatMap numL) va) (hvo : ∀ a ∈ v, I64 a) (hl3 : v.length ≤ 3) (hop : 0 ≤ n.op ∧ n.op < 14) (hlen : n.op = 13 ∨ (v.length : Int) = Tm.arityA n.op) (hr : ndV x y n v = (X, q)) :
    Calls Tryz.prog 32 #[.agg #[.slice x.sa x.sorts.length x.sc, .slice x.fa x.funs.length x.fc, .slice x.ma x.macs.length x.mc], .agg #[.slice y.sa y.sizes.length y.sc, .slice y.fa y.funs.length y.fc], .agg #[.int .i8 n.op, .int .i8 n.len, .int .i64 n.a0, .int .i64 n.a1, .int .i64 n.a2, .int .i64 n.sort, .int .i64 n.fn, .int .i64 n.num], .slice va v.length vc] w fun e w' => e = .returned (.tuple #[.int .i64 X, .bool q]) ∧ Below w.heap.size w w' := by
  obtain ⟨W0, hW0⟩ : ∃ W0, W0 = ((w.alloc (.cells #[.slice x.sa x.sorts.length x.sc, .slice x.fa x.funs.length x.fc, .slice x.ma x.macs.length x.mc] 26)).alloc (.cells #[.slice y.sa y.sizes.length y.sc, .slice y.fa y.funs.length y.fc] 30)).alloc (.cells #[.int .i8 n.op, .int .i8 n.len, .int .i64 n.a0, .int .i64 n.a1, .int .i64 n.a2, .int .i64 n.sort, .int .i64 n.fn, .int .i64 n.num] 47) := ⟨_, rfl⟩
  have hB0 : Below w.heap.size w W0 := by rw [hW0]; exact (((Below.refl _ w).alloc (Nat.le_refl _) _).alloc (by simp) _).alloc (by simp; omega) _
  have HB0 := Lib.hid hB0
  have HC := Lib.hid hY
  have HV := Lib.hid (hv.below hB0)
  have HVw := Lib.hid hv
  have hn0 : W0.heap[w.heap.size + 1 + 1]? = some (.cells #[.int .i8 n.op, .int .i8 n.len, .int .i64 n.a0, .int .i64 n.a1, .int .i64 n.a2, .int .i64 n.sort, .int .i64 n.fn, .int .i64 n.num] 47 (0, 0)) := by
    have := heap_alloc_new ((w.alloc (.cells #[.slice x.sa x.sorts.length x.sc, .slice x.fa x.funs.length x.fc, .slice x.ma x.macs.length x.mc] 26)).alloc (.cells #[.slice y.sa y.sizes.length y.sc, .slice y.fa y.funs.length y.fc] 30)) (.cells #[.int .i8 n.op, .int .i8 n.len, .int .i64 n.a0, .int .i64 n.a1, .int .i64 n.a2, .int .i64 n.sort, .int .i64 n.fn, .int .i64 n.num] 47)
    rw [World.size_alloc, World.size_alloc] at this
    rw [hW0]; exact this
  have n7 : W0.cell? ⟨w.heap.size + 1 + 1, 7, none⟩ = some (.int .i64 n.num) := (cell_of_row _ _ 7 _ _ _ hn0).trans rfl
  have HN7 : Hid (∀ V, Below W0.heap.size W0 V → V.cell? ⟨w.heap.size + 1 + 1, 7, none⟩ = some (.int .i64 n.num)) := fun V hV => (hV.cell (p := ⟨w.heap.size + 1 + 1, 7, none⟩) (Array.getElem?_eq_some_iff.1 hn0).1).trans n7
  have HVo := Lib.hid hvo
  have HNn := Lib.hid hn.num
  have HNf := Lib.hid hn.fn
  have HAp : Hid (∀ U, Below W0.heap.size W0 U → ∀ V E, applyV x y n.fn v = V → askE x y n.fn v = E → Calls Tryz.prog 65 #[.agg #[.slice x.sa x.sorts.length x.sc, .slice x.fa x.funs.length x.fc, .slice x.ma x.macs.length x.mc], .agg #[.slice y.sa y.sizes.length y.sc, .slice y.fa y.funs.length y.fc], .int .i64 n.fn, .slice va v.length vc] U fun e w' => e = .returned (.tuple #[.int .i64 V, .int .i64 E]) ∧ Below W0.heap.size W0 w') := fun U hU V E h1 h2 => by
    have hB := hB0.trans (hU.mono hB0.size)
    have h := (WApply_any x y n.fn v va vc U (hX.below hB) (hY.below hB) hn.fn ((hv.below hB).more hB.size) hvo (by simp only [maxLen]; omega)).mono fun e w' ⟨h1, h2⟩ => (⟨h1, hU.trans (h2.mono hU.size)⟩ : e = Ending.returned (.tuple #[.int .i64 (applyV x y n.fn v), .int .i64 (askE x y n.fn v)]) ∧ Below W0.heap.size W0 w')
    rw [h1, h2] at h
    exact h
  obtain ⟨op, len, a0, a1, a2, sort, fn, num⟩ := n
  simp only at hop hlen HAp HNn HNf hW0 n7 HN7
  have hc : op = 0 ∨ op = 1 ∨ op = 2 ∨ op = 3 ∨ op = 4 ∨ op = 5 ∨ op = 6 ∨ op = 7 ∨ op = 8 ∨ op = 9 ∨ op = 10 ∨ op = 11 ∨ op = 12 ∨ op = 13 := by omega
  have hgB := HB0.out.size
  clear hX hY hv hvo hn hn0 hB0 hop HC
  rcases hc with rfl | rfl | rfl | rfl | rfl | rfl | rfl | rfl | rfl | rfl | rfl | rfl | rfl | rfl
  · have hln : (v.length : Int) = 0 := by rcases hlen with h | h <;> first | exact h | cases h
    have hr2 : ((1, true) : Int × Bool) = (X, q) := hr
    obtain ⟨rfl, rfl⟩ := Prod.mk.inj hr2
    clear hr hr2
    go_enter Tryz.func32, Tryz.ntmps32
    go_wp2
    rw [← hW0]
    go_ret2
    exact ⟨rfl, HB0.out⟩
  · have hln : (v.length : Int) = 1 := by rcases hlen with h | h <;> first | exact h | cases h
    obtain ⟨g, o, hva, hg, hcell⟩ := HV.out (by rw [len_flat numL_len]; omega)
    obtain ⟨a, ha⟩ : ∃ a, v[0]? = some a := ⟨_, List.getElem?_eq_getElem (by omega)⟩
    have ga : v.getD 0 0 = a := by rw [List.getD_eq_getElem?_getD, ha]; rfl
    have na := hcell _ _ ((get_flat numL_len v 0 0 a ha (by omega)).trans rfl)
    have ia := HVo.out a (List.mem_of_getElem? ha)
    have da : (0 : Int) < (v.length : Int) := by omega
    obtain ⟨g2, o2, hva2, _, hcell2⟩ := HVw.out (by rw [len_flat numL_len]; omega)
    obtain ⟨rfl, rfl⟩ : g2 = g ∧ o2 = o := by rw [hva] at hva2; cases hva2; exact ⟨rfl, rfl⟩
    have ma := hcell2 _ _ ((get_flat numL_len v 0 0 a ha (by omega)).trans rfl)
    clear hva2 hcell2
    have hg1 : g2 < w.heap.size + 1 := by omega
    have hg2 : g2 < w.heap.size + 1 + 1 := by omega
    have hg3 : ¬ g2 = w.heap.size := by omega
    have hg4 : ¬ g2 = w.heap.size + 1 := by omega
    have hg5 : ¬ g2 = w.heap.size + 1 + 1 := by omega
    simp only [Nat.add_zero, Nat.mul_one] at na ma
    subst hva
    clear hcell ha hlen
    have hr2 : ((wrap64 (1 - v.getD 0 0), true) : Int × Bool) = (X, q) := hr
    rw [ga] at hr2
    obtain ⟨rfl, rfl⟩ := Prod.mk.inj hr2
    clear hr hr2
    go_enter Tryz.func32, Tryz.ntmps32
    go_wp2
    rw [← hW0]
    go_ret2
    exact ⟨rfl, HB0.out⟩
  · have hln : (v.length : Int) = 2 := by rcases hlen with h | h <;> first | exact h | cases h
    obtain ⟨g, o, hva, hg, hcell⟩ := HV.out (by rw [len_flat numL_len]; omega)
    obtain ⟨a, ha⟩ : ∃ a, v[0]? = some a := ⟨_, List.getElem?_eq_getElem (by omega)⟩
    have ga : v.getD 0 0 = a := by rw [List.getD_eq_getElem?_getD, ha]; rfl
    have na := hcell _ _ ((get_flat numL_len v 0 0 a ha (by omega)).trans rfl)
    have ia := HVo.out a (List.mem_of_getElem? ha)
    have da : (0 : Int) < (v.length : Int) := by omega
    obtain ⟨b, hb⟩ : ∃ b, v[1]? = some b := ⟨_, List.getElem?_eq_getElem (by omega)⟩
    have gb : v.getD 1 0 = b := by rw [List.getD_eq_getElem?_getD, hb]; rfl
    have nb := hcell _ _ ((get_flat numL_len v 1 0 b hb (by omega)).trans rfl)
    have ib := HVo.out b (List.mem_of_getElem? hb)
    have db : (1 : Int) < (v.length : Int) := by omega
    obtain ⟨g2, o2, hva2, _, hcell2⟩ := HVw.out (by rw [len_flat numL_len]; omega)
    obtain ⟨rfl, rfl⟩ : g2 = g ∧ o2 = o := by rw [hva] at hva2; cases hva2; exact ⟨rfl, rfl⟩
    have ma := hcell2 _ _ ((get_flat numL_len v 0 0 a ha (by omega)).trans rfl)
    have mb := hcell2 _ _ ((get_flat numL_len v 1 0 b hb (by omega)).trans rfl)
    clear hva2 hcell2
    have hg1 : g2 < w.heap.size + 1 := by omega
    have hg2 : g2 < w.heap.size + 1 + 1 := by omega
    have hg3 : ¬ g2 = w.heap.size := by omega
    have hg4 : ¬ g2 = w.heap.size + 1 := by omega
    have hg5 : ¬ g2 = w.heap.size + 1 + 1 := by omega
    simp only [Nat.add_zero, Nat.mul_one] at na ma nb mb
    subst hva
    clear hcell ha hb hlen
    have hr2 : ((wrap64 (v.getD 0 0 * v.getD 1 0), true) : Int × Bool) = (X, q) := hr
    rw [ga, gb] at hr2
    obtain ⟨rfl, rfl⟩ := Prod.mk.inj hr2
    clear hr hr2
    go_enter Tryz.func32, Tryz.ntmps32
    go_wp2_with fail
    rw [← hW0]
    clear hW0
    go_quiet (fail)
    go_wp2_with fail
    go_ret2
    exact ⟨rfl, below_dN HB0.out⟩
  · have hln : (v.length : Int) = 2 := by rcases hlen with h | h <;> first | exact h | cases h
    obtain ⟨g, o, hva, hg, hcell⟩ := HV.out (by rw [len_flat numL_len]; omega)
    obtain ⟨a, ha⟩ : ∃ a, v[0]? = some a := ⟨_, List.getElem?_eq_getElem (by omega)⟩
    have ga : v.getD 0 0 = a := by rw [List.getD_eq_getElem?_getD, ha]; rfl
    have na := hcell _ _ ((get_flat numL_len v 0 0 a ha (by omega)).trans rfl)
    have ia := HVo.out a (List.mem_of_getElem? ha)
    have da : (0 : Int) < (v.length : Int) := by omega
    obtain ⟨b, hb⟩ : ∃ b, v[1]? = some b := ⟨_, List.getElem?_eq_getElem (by omega)⟩
    have gb : v.getD 1 0 = b := by rw [List.getD_eq_getElem?_getD, hb]; rfl
    have nb := hcell _ _ ((get_flat numL_len v 1 0 b hb (by omega)).trans rfl)
    have ib := HVo.out b (List.mem_of_getElem? hb)
    have db : (1 : Int) < (v.length : Int) := by omega
    obtain ⟨g2, o2, hva2, _, hcell2⟩ := HVw.out (by rw [len_flat numL_len]; omega)
    obtain ⟨rfl, rfl⟩ : g2 = g ∧ o2 = o := by rw [hva] at hva2; cases hva2; exact ⟨rfl, rfl⟩
    have ma := hcell2 _ _ ((get_flat numL_len v 0 0 a ha (by omega)).trans rfl)
    have mb := hcell2 _ _ ((get_flat numL_len v 1 0 b hb (by omega)).trans rfl)
    clear hva2 hcell2
    have hg1 : g2 < w.heap.size + 1 := by omega
    have hg2 : g2 < w.heap.size + 1 + 1 := by omega
    have hg3 : ¬ g2 = w.heap.size := by omega
    have hg4 : ¬ g2 = w.heap.size + 1 := by omega
    have hg5 : ¬ g2 = w.heap.size + 1 + 1 := by omega
    simp only [Nat.add_zero, Nat.mul_one] at na ma nb mb
    subst hva
    clear hcell ha hb hlen
    have hr2 : ((max (v.getD 0 0) (v.getD 1 0), true) : Int × Bool) = (X, q) := hr
    rw [ga, gb] at hr2
    obtain ⟨rfl, rfl⟩ := Prod.mk.inj hr2
    clear hr hr2
    go_enter Tryz.func32, Tryz.ntmps32
    go_wp2_with fail
    rw [← hW0]
    clear hW0
    go_quiet (fail)
    go_wp2_with fail
    all_goals
      first | rw [Int.max_eq_right (by omega : a ≤ b)] | rw [Int.max_eq_left (by omega : b ≤ a)]
      go_ret2
      exact ⟨rfl, below_dN HB0.out⟩
  · have hln : (v.length : Int) = 2 := by rcases hlen with h | h <;> first | exact h | cases h
    obtain ⟨g, o, hva, hg, hcell⟩ := HV.out (by rw [len_flat numL_len]; omega)
    obtain ⟨a, ha⟩ : ∃ a, v[0]? = some a := ⟨_, List.getElem?_eq_getElem (by omega)⟩
    have ga : v.getD 0 0 = a := by rw [List.getD_eq_getElem?_getD, ha]; rfl
    have na := hcell _ _ ((get_flat numL_len v 0 0 a ha (by omega)).trans rfl)
    have ia := HVo.out a (List.mem_of_getElem? ha)
    have da : (0 : Int) < (v.length : Int) := by omega
    obtain ⟨b, hb⟩ : ∃ b, v[1]? = some b := ⟨_, List.getElem?_eq_getElem (by omega)⟩
    have gb : v.getD 1 0 = b := by rw [List.getD_eq_getElem?_getD, hb]; rfl
    have nb := hcell _ _ ((get_flat numL_len v 1 0 b hb (by omega)).trans rfl)
    have ib := HVo.out b (List.mem_of_getElem? hb)
    have db : (1 : Int) < (v.length : Int) := by omega
    obtain ⟨g2, o2, hva2, _, hcell2⟩ := HVw.out (by rw [len_flat numL_len]; omega)
    obtain ⟨rfl, rfl⟩ : g2 = g ∧ o2 = o := by rw [hva] at hva2; cases hva2; exact ⟨rfl, rfl⟩
    have ma := hcell2 _ _ ((get_flat numL_len v 0 0 a ha (by omega)).trans rfl)
    have mb := hcell2 _ _ ((get_flat numL_len v 1 0 b hb (by omega)).trans rfl)
    clear hva2 hcell2
    have hg1 : g2 < w.heap.size + 1 := by omega
    have hg2 : g2 < w.heap.size + 1 + 1 := by omega
    have hg3 : ¬ g2 = w.heap.size := by omega
    have hg4 : ¬ g2 = w.heap.size + 1 := by omega
    have hg5 : ¬ g2 = w.heap.size + 1 + 1 := by omega
    simp only [Nat.add_zero, Nat.mul_one] at na ma nb mb
    subst hva
    clear hcell ha hb hlen
    have hr2 : ((bitN (!decide (v.getD 0 0 = v.getD 1 0)), true) : Int × Bool) = (X, q) := hr
    rw [ga, gb] at hr2
    obtain ⟨rfl, rfl⟩ := Prod.mk.inj hr2
    clear hr hr2
    by_cases hab : a = b
    · have e1 := ne_false hab
      rw [decide_eq_true hab]
      clear hab
      go_enter Tryz.func32, Tryz.ntmps32
      go_wp2_with fail
      rw [← hW0]
      clear hW0
      go_region_with (go_at_call 62; refine (bit_any _ _).mono ?_; rintro e w1 ⟨rfl, rfl⟩)
      all_goals
        go_wp2_with fail
        go_ret2
        exact ⟨rfl, by first | exact HB0.out | exact HB0.out.drew⟩
    · have e1 := ne_true hab
      rw [decide_eq_false hab]
      clear hab
      go_enter Tryz.func32, Tryz.ntmps32
      go_wp2_with fail
      rw [← hW0]
      clear hW0
      go_region_with (go_at_call 62; refine (bit_any _ _).mono ?_; rintro e w1 ⟨rfl, rfl⟩)
      all_goals
        go_wp2_with fail
        go_ret2
        exact ⟨rfl, by first | exact HB0.out | exact HB0.out.drew⟩
  · have hln : (v.length : Int) = 2 := by rcases hlen with h | h <;> first | exact h | cases h
    obtain ⟨g, o, hva, hg, hcell⟩ := HV.out (by rw [len_flat numL_len]; omega)
    obtain ⟨a, ha⟩ : ∃ a, v[0]? = some a := ⟨_, List.getElem?_eq_getElem (by omega)⟩
    have ga : v.getD 0 0 = a := by rw [List.getD_eq_getElem?_getD, ha]; rfl
    have na := hcell _ _ ((get_flat numL_len v 0 0 a ha (by omega)).trans rfl)
    have ia := HVo.out a (List.mem_of_getElem? ha)
    have da : (0 : Int) < (v.length : Int) := by omega
    obtain ⟨b, hb⟩ : ∃ b, v[1]? = some b := ⟨_, List.getElem?_eq_getElem (by omega)⟩
    have gb : v.getD 1 0 = b := by rw [List.getD_eq_getElem?_getD, hb]; rfl
    have nb := hcell _ _ ((get_flat numL_len v 1 0 b hb (by omega)).trans rfl)
    have ib := HVo.out b (List.mem_of_getElem? hb)
    have db : (1 : Int) < (v.length : Int) := by omega
    obtain ⟨g2, o2, hva2, _, hcell2⟩ := HVw.out (by rw [len_flat numL_len]; omega)
    obtain ⟨rfl, rfl⟩ : g2 = g ∧ o2 = o := by rw [hva] at hva2; cases hva2; exact ⟨rfl, rfl⟩
    have ma := hcell2 _ _ ((get_flat numL_len v 0 0 a ha (by omega)).trans rfl)
    have mb := hcell2 _ _ ((get_flat numL_len v 1 0 b hb (by omega)).trans rfl)
    clear hva2 hcell2
    have hg1 : g2 < w.heap.size + 1 := by omega
    have hg2 : g2 < w.heap.size + 1 + 1 := by omega
    have hg3 : ¬ g2 = w.heap.size := by omega
    have hg4 : ¬ g2 = w.heap.size + 1 := by omega
    have hg5 : ¬ g2 = w.heap.size + 1 + 1 := by omega
    simp only [Nat.add_zero, Nat.mul_one] at na ma nb mb
    subst hva
    clear hcell ha hb hlen
    have hr2 : ((bitN (decide (v.getD 0 0 ≤ v.getD 1 0)), true) : Int × Bool) = (X, q) := hr
    rw [ga, gb] at hr2
    obtain ⟨rfl, rfl⟩ := Prod.mk.inj hr2
    clear hr hr2
    by_cases hab : a ≤ b
    · have e1 := decide_eq_true hab
      rw [decide_eq_true hab]
      clear hab
      go_enter Tryz.func32, Tryz.ntmps32
      go_wp2_with fail
      rw [← hW0]
      clear hW0
      go_region_with (go_at_call 62; refine (bit_any _ _).mono ?_; rintro e w1 ⟨rfl, rfl⟩)
      all_goals
        go_wp2_with fail
        go_ret2
        exact ⟨rfl, by first | exact HB0.out | exact HB0.out.drew⟩
    · have e1 := decide_eq_false hab
      rw [decide_eq_false hab]
      clear hab
      go_enter Tryz.func32, Tryz.ntmps32
      go_wp2_with fail
      rw [← hW0]
      clear hW0
      go_region_with (go_at_call 62; refine (bit_any _ _).mono ?_; rintro e w1 ⟨rfl, rfl⟩)
      all_goals
        go_wp2_with fail
        go_ret2
        exact ⟨rfl, by first | exact HB0.out | exact HB0.out.drew⟩
  · have hln : (v.length : Int) = 2 := by rcases hlen with h | h <;> first | exact h | cases h
    obtain ⟨g, o, hva, hg, hcell⟩ := HV.out (by rw [len_flat numL_len]; omega)
    obtain ⟨a, ha⟩ : ∃ a, v[0]? = some a := ⟨_, List.getElem?_eq_getElem (by omega)⟩
    have ga : v.getD 0 0 = a := by rw [List.getD_eq_getElem?_getD, ha]; rfl
    have na := hcell _ _ ((get_flat numL_len v 0 0 a ha (by omega)).trans rfl)
    have ia := HVo.out a (List.mem_of_getElem? ha)
    have da : (0 : Int) < (v.length : Int) := by omega
    obtain ⟨b, hb⟩ : ∃ b, v[1]? = some b := ⟨_, List.getElem?_eq_getElem (by omega)⟩
    have gb : v.getD 1 0 = b := by rw [List.getD_eq_getElem?_getD, hb]; rfl
    have nb := hcell _ _ ((get_flat numL_len v 1 0 b hb (by omega)).trans rfl)
    have ib := HVo.out b (List.mem_of_getElem? hb)
    have db : (1 : Int) < (v.length : Int) := by omega
    obtain ⟨g2, o2, hva2, _, hcell2⟩ := HVw.out (by rw [len_flat numL_len]; omega)
    obtain ⟨rfl, rfl⟩ : g2 = g ∧ o2 = o := by rw [hva] at hva2; cases hva2; exact ⟨rfl, rfl⟩
    have ma := hcell2 _ _ ((get_flat numL_len v 0 0 a ha (by omega)).trans rfl)
    have mb := hcell2 _ _ ((get_flat numL_len v 1 0 b hb (by omega)).trans rfl)
    clear hva2 hcell2
    have hg1 : g2 < w.heap.size + 1 := by omega
    have hg2 : g2 < w.heap.size + 1 + 1 := by omega
    have hg3 : ¬ g2 = w.heap.size := by omega
    have hg4 : ¬ g2 = w.heap.size + 1 := by omega
    have hg5 : ¬ g2 = w.heap.size + 1 + 1 := by omega
    simp only [Nat.add_zero, Nat.mul_one] at na ma nb mb
    subst hva
    clear hcell ha hb hlen
    have hr2 : ((bitN (decide (v.getD 0 0 = v.getD 1 0)), true) : Int × Bool) = (X, q) := hr
    rw [ga, gb] at hr2
    obtain ⟨rfl, rfl⟩ := Prod.mk.inj hr2
    clear hr hr2
    by_cases hab : a = b
    · have e1 := eq_true_ hab
      rw [decide_eq_true hab]
      clear hab
      go_enter Tryz.func32, Tryz.ntmps32
      go_wp2_with fail
      rw [← hW0]
      clear hW0
      go_region_with (go_at_call 62; refine (bit_any _ _).mono ?_; rintro e w1 ⟨rfl, rfl⟩)
      all_goals
        go_wp2_with fail
        go_ret2
        exact ⟨rfl, by first | exact HB0.out | exact HB0.out.drew⟩
    · have e1 := eq_false hab
      rw [decide_eq_false hab]
      clear hab
      go_enter Tryz.func32, Tryz.ntmps32
      go_wp2_with fail
      rw [← hW0]
      clear hW0
      go_region_with (go_at_call 62; refine (bit_any _ _).mono ?_; rintro e w1 ⟨rfl, rfl⟩)
      all_goals
        go_wp2_with fail
        go_ret2
        exact ⟨rfl, by first | exact HB0.out | exact HB0.out.drew⟩
  · have hln : (v.length : Int) = 3 := by rcases hlen with h | h <;> first | exact h | cases h
    obtain ⟨g, o, hva, hg, hcell⟩ := HV.out (by rw [len_flat numL_len]; omega)
    obtain ⟨a, ha⟩ : ∃ a, v[0]? = some a := ⟨_, List.getElem?_eq_getElem (by omega)⟩
    have ga : v.getD 0 0 = a := by rw [List.getD_eq_getElem?_getD, ha]; rfl
    have na := hcell _ _ ((get_flat numL_len v 0 0 a ha (by omega)).trans rfl)
    have ia := HVo.out a (List.mem_of_getElem? ha)
    have da : (0 : Int) < (v.length : Int) := by omega
    obtain ⟨b, hb⟩ : ∃ b, v[1]? = some b := ⟨_, List.getElem?_eq_getElem (by omega)⟩
    have gb : v.getD 1 0 = b := by rw [List.getD_eq_getElem?_getD, hb]; rfl
    have nb := hcell _ _ ((get_flat numL_len v 1 0 b hb (by omega)).trans rfl)
    have ib := HVo.out b (List.mem_of_getElem? hb)
    have db : (1 : Int) < (v.length : Int) := by omega
    obtain ⟨c, hc⟩ : ∃ c, v[2]? = some c := ⟨_, List.getElem?_eq_getElem (by omega)⟩
    have gc : v.getD 2 0 = c := by rw [List.getD_eq_getElem?_getD, hc]; rfl
    have nc := hcell _ _ ((get_flat numL_len v 2 0 c hc (by omega)).trans rfl)
    have ic := HVo.out c (List.mem_of_getElem? hc)
    have dc : (2 : Int) < (v.length : Int) := by omega
    obtain ⟨g2, o2, hva2, _, hcell2⟩ := HVw.out (by rw [len_flat numL_len]; omega)
    obtain ⟨rfl, rfl⟩ : g2 = g ∧ o2 = o := by rw [hva] at hva2; cases hva2; exact ⟨rfl, rfl⟩
    have ma := hcell2 _ _ ((get_flat numL_len v 0 0 a ha (by omega)).trans rfl)
    have mb := hcell2 _ _ ((get_flat numL_len v 1 0 b hb (by omega)).trans rfl)
    have mc := hcell2 _ _ ((get_flat numL_len v 2 0 c hc (by omega)).trans rfl)
    clear hva2 hcell2
    have hg1 : g2 < w.heap.size + 1 := by omega
    have hg2 : g2 < w.heap.size + 1 + 1 := by omega
    have hg3 : ¬ g2 = w.heap.size := by omega
    have hg4 : ¬ g2 = w.heap.size + 1 := by omega
    have hg5 : ¬ g2 = w.heap.size + 1 + 1 := by omega
    simp only [Nat.add_zero, Nat.mul_one] at na ma nb mb nc mc
    subst hva
    clear hcell ha hb hc hlen
    have hr2 : ((if v.getD 0 0 = 1 then v.getD 1 0 else v.getD 2 0, true) : Int × Bool) = (X, q) := hr
    rw [ga, gb, gc] at hr2
    obtain ⟨rfl, rfl⟩ := Prod.mk.inj hr2
    clear hr hr2
    by_cases h1 : a = 1
    · have e1 := eq_true_ h1
      rw [if_pos h1]
      clear h1
      go_enter Tryz.func32, Tryz.ntmps32
      go_wp2
      rw [← hW0]
      go_ret2
      exact ⟨rfl, HB0.out⟩
    · have e1 := eq_false h1
      rw [if_neg h1]
      clear h1
      go_enter Tryz.func32, Tryz.ntmps32
      go_wp2
      rw [← hW0]
      go_ret2
      exact ⟨rfl, HB0.out⟩
  · have hln : (v.length : Int) = 2 := by rcases hlen with h | h <;> first | exact h | cases h
    obtain ⟨g, o, hva, hg, hcell⟩ := HV.out (by rw [len_flat numL_len]; omega)
    obtain ⟨a, ha⟩ : ∃ a, v[0]? = some a := ⟨_, List.getElem?_eq_getElem (by omega)⟩
    have ga : v.getD 0 0 = a := by rw [List.getD_eq_getElem?_getD, ha]; rfl
    have na := hcell _ _ ((get_flat numL_len v 0 0 a ha (by omega)).trans rfl)
    have ia := HVo.out a (List.mem_of_getElem? ha)
    have da : (0 : Int) < (v.length : Int) := by omega
    obtain ⟨b, hb⟩ : ∃ b, v[1]? = some b := ⟨_, List.getElem?_eq_getElem (by omega)⟩
    have gb : v.getD 1 0 = b := by rw [List.getD_eq_getElem?_getD, hb]; rfl
    have nb := hcell _ _ ((get_flat numL_len v 1 0 b hb (by omega)).trans rfl)
    have ib := HVo.out b (List.mem_of_getElem? hb)
    have db : (1 : Int) < (v.length : Int) := by omega
    obtain ⟨g2, o2, hva2, _, hcell2⟩ := HVw.out (by rw [len_flat numL_len]; omega)
    obtain ⟨rfl, rfl⟩ : g2 = g ∧ o2 = o := by rw [hva] at hva2; cases hva2; exact ⟨rfl, rfl⟩
    have ma := hcell2 _ _ ((get_flat numL_len v 0 0 a ha (by omega)).trans rfl)
    have mb := hcell2 _ _ ((get_flat numL_len v 1 0 b hb (by omega)).trans rfl)
    clear hva2 hcell2
    have hg1 : g2 < w.heap.size + 1 := by omega
    have hg2 : g2 < w.heap.size + 1 + 1 := by omega
    have hg3 : ¬ g2 = w.heap.size := by omega
    have hg4 : ¬ g2 = w.heap.size + 1 := by omega
    have hg5 : ¬ g2 = w.heap.size + 1 + 1 := by omega
    simp only [Nat.add_zero, Nat.mul_one] at na ma nb mb
    subst hva
    clear hcell ha hb hlen
    have hr2 : ((bitN (decide (v.getD 0 0 ≤ v.getD 1 0)), true) : Int × Bool) = (X, q) := hr
    rw [ga, gb] at hr2
    obtain ⟨rfl, rfl⟩ := Prod.mk.inj hr2
    clear hr hr2
    by_cases hab : a ≤ b
    · have e1 := decide_eq_true hab
      rw [decide_eq_true hab]
      clear hab
      go_enter Tryz.func32, Tryz.ntmps32
      go_wp2_with fail
      rw [← hW0]
      clear hW0
      go_region_with (go_at_call 62; refine (bit_any _ _).mono ?_; rintro e w1 ⟨rfl, rfl⟩)
      all_goals
        go_wp2_with fail
        go_ret2
        exact ⟨rfl, by first | exact HB0.out | exact HB0.out.drew⟩
    · have e1 := decide_eq_false hab
      rw [decide_eq_false hab]
      clear hab
      go_enter Tryz.func32, Tryz.ntmps32
      go_wp2_with fail
      rw [← hW0]
      clear hW0
      go_region_with (go_at_call 62; refine (bit_any _ _).mono ?_; rintro e w1 ⟨rfl, rfl⟩)
      all_goals
        go_wp2_with fail
        go_ret2
        exact ⟨rfl, by first | exact HB0.out | exact HB0.out.drew⟩
  · have hln : (v.length : Int) = 2 := by rcases hlen with h | h <;> first | exact h | cases h
    obtain ⟨g, o, hva, hg, hcell⟩ := HV.out (by rw [len_flat numL_len]; omega)
    obtain ⟨a, ha⟩ : ∃ a, v[0]? = some a := ⟨_, List.getElem?_eq_getElem (by omega)⟩
    have ga : v.getD 0 0 = a := by rw [List.getD_eq_getElem?_getD, ha]; rfl
    have na := hcell _ _ ((get_flat numL_len v 0 0 a ha (by omega)).trans rfl)
    have ia := HVo.out a (List.mem_of_getElem? ha)
    have da : (0 : Int) < (v.length : Int) := by omega
    obtain ⟨b, hb⟩ : ∃ b, v[1]? = some b := ⟨_, List.getElem?_eq_getElem (by omega)⟩
    have gb : v.getD 1 0 = b := by rw [List.getD_eq_getElem?_getD, hb]; rfl
    have nb := hcell _ _ ((get_flat numL_len v 1 0 b hb (by omega)).trans rfl)
    have ib := HVo.out b (List.mem_of_getElem? hb)
    have db : (1 : Int) < (v.length : Int) := by omega
    obtain ⟨g2, o2, hva2, _, hcell2⟩ := HVw.out (by rw [len_flat numL_len]; omega)
    obtain ⟨rfl, rfl⟩ : g2 = g ∧ o2 = o := by rw [hva] at hva2; cases hva2; exact ⟨rfl, rfl⟩
    have ma := hcell2 _ _ ((get_flat numL_len v 0 0 a ha (by omega)).trans rfl)
    have mb := hcell2 _ _ ((get_flat numL_len v 1 0 b hb (by omega)).trans rfl)
    clear hva2 hcell2
    have hg1 : g2 < w.heap.size + 1 := by omega
    have hg2 : g2 < w.heap.size + 1 + 1 := by omega
    have hg3 : ¬ g2 = w.heap.size := by omega
    have hg4 : ¬ g2 = w.heap.size + 1 := by omega
    have hg5 : ¬ g2 = w.heap.size + 1 + 1 := by omega
    simp only [Nat.add_zero, Nat.mul_one] at na ma nb mb
    subst hva
    clear hcell ha hb hlen
    have hr2 : ((bitN (decide (v.getD 0 0 < v.getD 1 0)), true) : Int × Bool) = (X, q) := hr
    rw [ga, gb] at hr2
    obtain ⟨rfl, rfl⟩ := Prod.mk.inj hr2
    clear hr hr2
    by_cases hab : a < b
    · have e1 := decide_eq_true hab
      rw [decide_eq_true hab]
      clear hab
      go_enter Tryz.func32, Tryz.ntmps32
      go_wp2_with fail
      rw [← hW0]
      clear hW0
      go_region_with (go_at_call 62; refine (bit_any _ _).mono ?_; rintro e w1 ⟨rfl, rfl⟩)
      all_goals
        go_wp2_with fail
        go_ret2
        exact ⟨rfl, by first | exact HB0.out | exact HB0.out.drew⟩
    · have e1 := decide_eq_false hab
      rw [decide_eq_false hab]
      clear hab
      go_enter Tryz.func32, Tryz.ntmps32
      go_wp2_with fail
      rw [← hW0]
      clear hW0
      go_region_with (go_at_call 62; refine (bit_any _ _).mono ?_; rintro e w1 ⟨rfl, rfl⟩)
      all_goals
        go_wp2_with fail
        go_ret2
        exact ⟨rfl, by first | exact HB0.out | exact HB0.out.drew⟩
  · have hln : (v.length : Int) = 0 := by rcases hlen with h | h <;> first | exact h | cases h
    have hr2 : ((num, true) : Int × Bool) = (X, q) := hr
    obtain ⟨rfl, rfl⟩ := Prod.mk.inj hr2
    clear hr hr2
    go_enter Tryz.func32, Tryz.ntmps32
    go_wp2
    rw [← hW0]
    go_ret2
    exact ⟨rfl, HB0.out⟩
  · have hln : (v.length : Int) = 1 := by rcases hlen with h | h <;> first | exact h | cases h
    obtain ⟨g, o, hva, hg, hcell⟩ := HV.out (by rw [len_flat numL_len]; omega)
    obtain ⟨a, ha⟩ : ∃ a, v[0]? = some a := ⟨_, List.getElem?_eq_getElem (by omega)⟩
    have ga : v.getD 0 0 = a := by rw [List.getD_eq_getElem?_getD, ha]; rfl
    have na := hcell _ _ ((get_flat numL_len v 0 0 a ha (by omega)).trans rfl)
    have ia := HVo.out a (List.mem_of_getElem? ha)
    have da : (0 : Int) < (v.length : Int) := by omega
    obtain ⟨g2, o2, hva2, _, hcell2⟩ := HVw.out (by rw [len_flat numL_len]; omega)
    obtain ⟨rfl, rfl⟩ : g2 = g ∧ o2 = o := by rw [hva] at hva2; cases hva2; exact ⟨rfl, rfl⟩
    have ma := hcell2 _ _ ((get_flat numL_len v 0 0 a ha (by omega)).trans rfl)
    clear hva2 hcell2
    have hg1 : g2 < w.heap.size + 1 := by omega
    have hg2 : g2 < w.heap.size + 1 + 1 := by omega
    have hg3 : ¬ g2 = w.heap.size := by omega
    have hg4 : ¬ g2 = w.heap.size + 1 := by omega
    have hg5 : ¬ g2 = w.heap.size + 1 + 1 := by omega
    simp only [Nat.add_zero, Nat.mul_one] at na ma
    subst hva
    clear hcell ha hlen
    have hr2 : ((if 2305843009213693953 < wrap64 (wrap64 ((v.getD 0 0).tdiv 2) + wrap64 (num.tdiv 2)) ∨ wrap64 (wrap64 ((v.getD 0 0).tdiv 2) + wrap64 (num.tdiv 2)) < -2305843009213693953 then (0, false) else (wrap64 (v.getD 0 0 + num), mayB (wrap64 (v.getD 0 0 + num)))) : Int × Bool) = (X, q) := hr
    rw [ga] at hr2
    by_cases hb : (2305843009213693953 < wrap64 (wrap64 (a.tdiv 2) + wrap64 (num.tdiv 2)) ∨ wrap64 (wrap64 (a.tdiv 2) + wrap64 (num.tdiv 2)) < -2305843009213693953)
    · rw [if_pos hb] at hr2
      obtain ⟨rfl, rfl⟩ := Prod.mk.inj hr2
      clear hr hr2
      go_enter Tryz.func32, Tryz.ntmps32
      go_wp2_with fail
      rw [← hW0]
      clear hW0
      go_quiet (fail)
      go_wp2_with fail
      all_goals first | (exfalso; omega) | (go_ret2; exact ⟨rfl, below_dN HB0.out⟩)
    · rw [if_neg hb] at hr2
      obtain ⟨rfl, rfl⟩ := Prod.mk.inj hr2
      clear hr hr2
      go_enter Tryz.func32, Tryz.ntmps32
      go_wp2_with fail
      rw [← hW0]
      clear hW0
      go_quiet (fail)
      go_wp2_with fail
      all_goals first | (exfalso; omega) | skip
      have hDn : Hid ((W0.drewN nq).drew.cell? ⟨g2, o2, none⟩ = some (.int .i64 a) ∧ (W0.drewN nq).drew.cell? ⟨w.heap.size + 1 + 1, 7, none⟩ = some (.int .i64 num)) := ⟨na, n7⟩
      clear na ma n7 hb
      refine wp_region_held_drew (S := fun V => V.cell? ⟨g2, o2, none⟩ = some (.int .i64 a) ∧ V.cell? ⟨w.heap.size + 1 + 1, 7, none⟩ = some (.int .i64 num)) (by kernel_rfl) (hDn.out) (fun hHeld => ?_)
      refine tkY 0 (.slice (some ⟨g2, o2, none⟩) v.length vc) ?_
      try simp only [kP, kA, kZ, kS]
      refine tkY 1 (.pointer (some ⟨g2, o2, none⟩)) ?_
      try simp only [kP, kA, kZ, kS]
      refine tkY 2 (.int .i64 a) ?_
      try simp only [kP, kA, kZ, kS]
      refine tkY 3 (.pointer (some ⟨w.heap.size + 1 + 1, 7, none⟩)) ?_
      try simp only [kP, kA, kZ, kS]
      refine tkY 4 (.int .i64 num) ?_
      try simp only [kP, kA, kZ, kS]
      refine tkW 5 (.int .i64 (wrap64 (a + num))) ?_ ?_
      · (intro w hSw; (try dsimp only at hSw); go_simp; rw [IntKind.wrap_i64]; unfold wrap64; omega)
      try simp only [kP, kA, kZ, kS]
      refine tkY 6 (.slice (some ⟨g2, o2, none⟩) v.length vc) ?_
      try simp only [kP, kA, kZ, kS]
      refine tkY 7 (.pointer (some ⟨g2, o2, none⟩)) ?_
      try simp only [kP, kA, kZ, kS]
      refine tkY 8 (.int .i64 a) ?_
      try simp only [kP, kA, kZ, kS]
      refine tkY 9 (.pointer (some ⟨w.heap.size + 1 + 1, 7, none⟩)) ?_
      try simp only [kP, kA, kZ, kS]
      refine tkY 10 (.int .i64 num) ?_
      try simp only [kP, kA, kZ, kS]
      refine tkW 11 (.int .i64 (wrap64 (a + num))) ?_ ?_
      · (intro w hSw; (try dsimp only at hSw); go_simp; rw [IntKind.wrap_i64]; unfold wrap64; omega)
      try simp only [kP, kA, kZ, kS]
      refine wpAnyH_ready (rs := [12]) (by kernel_rfl) (by simp) ?_
      refine AllReadyH.cons (o := { dst := some 147, op := Op.call { callee := Callee.value (Operand.func 64), args := #[Operand.tmp 146], argTypes := #[3] }, type := 4, pos := "ref.go:69", after := #[{ on := 11, ground := Ground.data }], guard := none }) rfl (fun K hK => ?_) AllReadyH.nil
      go_simp
      go_at_call 64
      refine (rfits_any _ _ (i64_wrap _)).mono ?_
      rintro e w1 ⟨rfl, rfl⟩
      go_wp2_with fail
      refine hK.out _ _ ?_ (fun hHeld => ?_)
      · exact hDn.out
      clear hK K
      try simp only [Act.put, List.setIfInBounds_toArray, List.set_cons_zero, List.set_cons_succ]
      refine tkY 13 (.int .i64 (wrap64 (a + num))) ?_
      try simp only [kP, kA, kZ, kS]
      refine tkY 14 (.bool (mayB (wrap64 (a + num)))) ?_
      try simp only [kP, kA, kZ, kS]
      refine wpAnyH_done (by kernel_rfl) ?_ _
      go_wp2_with fail
      go_ret2
      exact ⟨rfl, below_dN HB0.out⟩
  · have hln : (v.length : Int) = 2 := by rcases hlen with h | h <;> first | exact h | cases h
    obtain ⟨g, o, hva, hg, hcell⟩ := HV.out (by rw [len_flat numL_len]; omega)
    obtain ⟨a, ha⟩ : ∃ a, v[0]? = some a := ⟨_, List.getElem?_eq_getElem (by omega)⟩
    have ga : v.getD 0 0 = a := by rw [List.getD_eq_getElem?_getD, ha]; rfl
    have na := hcell _ _ ((get_flat numL_len v 0 0 a ha (by omega)).trans rfl)
    have ia := HVo.out a (List.mem_of_getElem? ha)
    have da : (0 : Int) < (v.length : Int) := by omega
    obtain ⟨b, hb⟩ : ∃ b, v[1]? = some b := ⟨_, List.getElem?_eq_getElem (by omega)⟩
    have gb : v.getD 1 0 = b := by rw [List.getD_eq_getElem?_getD, hb]; rfl
    have nb := hcell _ _ ((get_flat numL_len v 1 0 b hb (by omega)).trans rfl)
    have ib := HVo.out b (List.mem_of_getElem? hb)
    have db : (1 : Int) < (v.length : Int) := by omega
    obtain ⟨g2, o2, hva2, _, hcell2⟩ := HVw.out (by rw [len_flat numL_len]; omega)
    obtain ⟨rfl, rfl⟩ : g2 = g ∧ o2 = o := by rw [hva] at hva2; cases hva2; exact ⟨rfl, rfl⟩
    have ma := hcell2 _ _ ((get_flat numL_len v 0 0 a ha (by omega)).trans rfl)
    have mb := hcell2 _ _ ((get_flat numL_len v 1 0 b hb (by omega)).trans rfl)
    clear hva2 hcell2
    have hg1 : g2 < w.heap.size + 1 := by omega
    have hg2 : g2 < w.heap.size + 1 + 1 := by omega
    have hg3 : ¬ g2 = w.heap.size := by omega
    have hg4 : ¬ g2 = w.heap.size + 1 := by omega
    have hg5 : ¬ g2 = w.heap.size + 1 + 1 := by omega
    simp only [Nat.add_zero, Nat.mul_one] at na ma nb mb
    subst hva
    clear hcell ha hb hlen
    have hr2 : ((bitN (atM (v.getD 0 0) (v.getD 1 0) num), true) : Int × Bool) = (X, q) := hr
    rw [ga, gb] at hr2
    obtain ⟨rfl, rfl⟩ := Prod.mk.inj hr2
    clear hr hr2
    cases hat : atM a b num
    · go_enter Tryz.func32, Tryz.ntmps32
      go_wp2_with fail
      rw [← hW0]
      clear hW0
      go_region_with (first | (go_at_call 63; refine (RAtMost_any a b num _ _ ia ib HNn.out hat).mono ?_; rintro e w1 ⟨rfl, rfl⟩) | (go_at_call 62; refine (bit_any _ _).mono ?_; rintro e w1 ⟨rfl, rfl⟩))
      all_goals
        go_wp2_with fail
        go_ret2
        exact ⟨rfl, by first | exact HB0.out | exact HB0.out.drew⟩
    · go_enter Tryz.func32, Tryz.ntmps32
      go_wp2_with fail
      rw [← hW0]
      clear hW0
      go_region_with (first | (go_at_call 63; refine (RAtMost_any a b num _ _ ia ib HNn.out hat).mono ?_; rintro e w1 ⟨rfl, rfl⟩) | (go_at_call 62; refine (bit_any _ _).mono ?_; rintro e w1 ⟨rfl, rfl⟩))
      all_goals
        go_wp2_with fail
        go_ret2
        exact ⟨rfl, by first | exact HB0.out | exact HB0.out.drew⟩
  · obtain ⟨Ea, hEa⟩ : ∃ E, askE x y fn v = E := ⟨_, rfl⟩
    obtain ⟨Va, hVa⟩ : ∃ V, applyV x y fn v = V := ⟨_, rfl⟩
    have hr2 : (applyV x y fn v, true) = (X, q) := hr
    rw [hVa] at hr2
    obtain ⟨rfl, rfl⟩ := Prod.mk.inj hr2
    have HAx : Hid (∀ U, Below W0.heap.size W0 U → Calls Tryz.prog 65 #[.agg #[.slice x.sa x.sorts.length x.sc, .slice x.fa x.funs.length x.fc, .slice x.ma x.macs.length x.mc], .agg #[.slice y.sa y.sizes.length y.sc, .slice y.fa y.funs.length y.fc], .int .i64 fn, .slice va v.length vc] U fun e w' => e = .returned (.tuple #[.int .i64 Va, .int .i64 Ea]) ∧ Below W0.heap.size W0 w') := fun U hU => HAp.out U hU _ _ hVa hEa
    clear hr hr2 hVa hEa
    go_enter Tryz.func32, Tryz.ntmps32
    go_wp2_with (go_at_call 65; rw [← hW0]; clear hW0; refine (HAx.out _ (Below.refl _ _)).mono ?_; rintro e w5 ⟨rfl, hb5⟩; have HB5 := Lib.hid hb5; clear hb5)
    go_ret2
    exact ⟨rfl, HB0.out.trans (HB5.out.mono HB0.out.size)⟩
end Go.Proofs.YtfbjgadgfjnamaaGreatDoor
