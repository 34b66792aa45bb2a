/- Atoms: what a node is. -/
import Derived.Test.YtaiabpbcipnjaaaDoorAtE
namespace Go.Proofs.YtaiabpbcipnjaaaDoor.Tm
open Go.RowKit
set_option linter.unusedVariables false
/-- What a node is. -/
def kindA (l : List NodeA) (n : NodeA) : Int :=
  if n.sort = 0 then
    (if n.op = 6 then (if sameA l n = true then eqsL.getD (min (nodA l n.a0).sort 2).toNat 0 else 0)
     else if n.op = 7 then (if sameA l n = true ∧ (nodA l n.a0).sort = 0 then 3 else 0)
     else kindsL.getD n.op.toNat 0)
  else 0
theorem op_rng {n : NodeA} {k : Nat} (h : standsB n k = true) : 0 ≤ n.op ∧ n.op < 14 ∧ 0 ≤ n.sort ∧ n.sort < 6 ∧ (n.op = 6 → n.len = 2) ∧ (n.op = 7 → n.len = 3) := by
  unfold standsB at h
  rw [decide_eq_true_eq] at h
  obtain ⟨⟨h1, h2, h3⟩, ⟨h4, h5⟩, _⟩ := h
  refine ⟨h1, h2, h4, h5, fun h6 => ?_, fun h7 => ?_⟩
  · rw [if_neg (by omega), if_neg (by omega)] at h3
    rw [h3.1, h6]; rfl
  · rw [if_neg (by omega), if_neg (by omega)] at h3
    rw [h3.1, h7]; rfl
set_option maxRecDepth 100000 in
set_option maxHeartbeats 4000000 in
theorem kind_any (l : List NodeA) (a : Option Addr) (c k : Nat) (n : NodeA) (v : Int) (w : World) (hG : GK w) (hA : TabR w l a c) (hok : okFrom [] l = true) (hl : l.length ≤ 3000) (hk : l[k]? = some n) (hv : kindA l n = v) :
    Calls Tryd.prog 30 #[.agg #[.slice a l.length c], .int .i64 k] w fun e w' => e = .returned (.int .i8 v) ∧ Below w.heap.size w w' := by
  have hlt := (List.getElem?_eq_some_iff.1 hk).1
  obtain ⟨r0, r1, r2, r3, r6, r7⟩ := op_rng (ok_at hok hk).1
  have hI := stands_in hok hk
  have hno := hA.ok n (List.mem_of_getElem? hk)
  obtain ⟨W0, hW0⟩ : ∃ W0, W0 = (w.alloc (.cells #[.slice a l.length c] 24)).alloc (.cells #[.int .i8 n.op, .int .i8 n.len, .int .i64 n.a0, .int .i64 n.a1, .int .i64 n.a2, .int .i64 n.sort, .int .i64 n.fn, .int .i64 n.num] 34) := ⟨_, rfl⟩
  have hB0 : Below w.heap.size w W0 := by rw [hW0]; exact ((Below.refl _ w).alloc (Nat.le_refl _) _).alloc (by simp) _
  have hX0 : W0.heap[w.heap.size]? = some (.cells #[.slice a l.length c] 24 (0, 0)) := by rw [hW0]; exact (Below.heap_alloc _ _ _ (by simp)).trans (heap_alloc_new w _)
  have hN0 : W0.heap[w.heap.size + 1]? = some (.cells #[.int .i8 n.op, .int .i8 n.len, .int .i64 n.a0, .int .i64 n.a1, .int .i64 n.a2, .int .i64 n.sort, .int .i64 n.fn, .int .i64 n.num] 34 (0, 0)) := by
    have := heap_alloc_new (w.alloc (.cells #[.slice a l.length c] 24)) (.cells #[.int .i8 n.op, .int .i8 n.len, .int .i64 n.a0, .int .i64 n.a1, .int .i64 n.a2, .int .i64 n.sort, .int .i64 n.fn, .int .i64 n.num] 34)
    rw [World.size_alloc] at this
    rw [hW0]; exact this
  have HX : Hid (∀ V, Below W0.heap.size W0 V → V.cell? ⟨w.heap.size, 0, none⟩ = some (.slice a l.length c) ∧ w.heap.size < V.heap.size) := fun V hV => by
    have e1 := (hV.block _ (Array.getElem?_eq_some_iff.1 hX0).1).trans hX0
    exact ⟨(cell_of_row _ _ 0 _ _ _ e1).trans rfl, (Array.getElem?_eq_some_iff.1 e1).1⟩
  have HN : Hid (∀ V, Below W0.heap.size W0 V → V.heap[w.heap.size + 1]? = some (.cells #[.int .i8 n.op, .int .i8 n.len, .int .i64 n.a0, .int .i64 n.a1, .int .i64 n.a2, .int .i64 n.sort, .int .i64 n.fn, .int .i64 n.num] 34 (0, 0))) := fun V hV => (hV.block _ (Array.getElem?_eq_some_iff.1 hN0).1).trans hN0
  have HG := Lib.hid hG
  have HB0 := Lib.hid hB0
  obtain ⟨s, hs⟩ : ∃ s, (nodA l n.a0).sort = s := ⟨_, rfl⟩
  obtain ⟨q, hq⟩ : ∃ q, sameA l n = q := ⟨_, rfl⟩
  have HArg : 1 ≤ n.len → Hid (∀ V, Below w.heap.size w V → Calls Tryd.prog 39 #[.agg #[.slice a l.length c], .agg #[.int .i8 n.op, .int .i8 n.len, .int .i64 n.a0, .int .i64 n.a1, .int .i64 n.a2, .int .i64 n.sort, .int .i64 n.fn, .int .i64 n.num]] V fun e w' => e = .returned (.tuple #[.int .i64 s, .bool q]) ∧ Below V.heap.size V w') := fun h1 V hV => by rw [← hs, ← hq]; exact argSort_any l a c n V (hA.below hV) hl hno hI h1
  have hs6 : 1 ≤ n.len → 0 ≤ s ∧ s < 6 := fun h1 => by
    have ha := hI.arg 0 (by omega)
    obtain ⟨m, hm⟩ : ∃ m : Nat, n.a0 = (m : Int) := ⟨n.a0.toNat, by have := ha.1; simp only [argA] at this; omega⟩
    obtain ⟨y, hy⟩ : ∃ y, l[m]? = some y := ⟨_, List.getElem?_eq_getElem (by have := ha.2; simp only [argA] at this; omega)⟩
    rw [hm, nodA_at hy] at hs
    have := op_rng (ok_at hok hy).1
    omega
  have hvv : (if n.sort = 0 then (if n.op = 6 then (if q = true then eqsL.getD (min s 2).toNat 0 else 0) else if n.op = 7 then (if q = true ∧ s = 0 then 3 else 0) else kindsL.getD n.op.toNat 0) else 0) = v := by rw [← hv]; unfold kindA; rw [hs, hq]
  obtain ⟨g, o, rfl, hg, q0, q1, q2, q3, q4, q5, q6, q7⟩ := hA.node hk
  have hcap := hA.le
  have hki : (k : Int) < (l.length : Int) := by omega
  have hk0 : (0 : Int) ≤ (k : Int) := by omega
  clear hA hG hok hk hI hno hB0 hX0 hN0 hv hs hq
  by_cases h0 : n.sort = 0
  rotate_left
  · obtain rfl : 0 = v := by rw [← hvv, if_neg h0]
    have e0 := ne_t h0
    clear h0 hvv
    go_enter Tryd.func30, Tryd.ntmps30
    go_wp2_with fail
    rw [← hW0]
    clear hW0
    go_ret
    exact ⟨rfl, HB0.out⟩
  rw [if_pos h0] at hvv
  have e0 := ne_f h0
  by_cases h6 : n.op = 6
  · rw [if_pos h6] at hvv
    have HA6 := HArg (by rw [r6 h6]; decide)
    have hs6 := hs6 (by rw [r6 h6]; decide)
    have e6 := eq_t h6
    cases q with
    | true =>
      rw [if_pos rfl] at hvv
      have hc : s = 0 ∨ s = 1 ∨ s = 2 ∨ 3 ≤ s := by omega
      rcases hc with rfl | rfl | rfl | h2
      · obtain rfl : 3 = v := hvv
        clear h0 h6 HArg hs6
        go_enter Tryd.func30, Tryd.ntmps30
        go_wp2_with fail
        rw [← hW0]
        clear hW0
        refine (HA6.out _ HB0.out).mono ?_
        rintro e w1 ⟨rfl, hb1⟩
        have HB1 : Hid (Below w.heap.size w w1) := HB0.out.trans (hb1.mono HB0.out.size)
        have g0 := (HG.out.below HB1.out).e 0 3 rfl
        have gz := (HG.out.below HB1.out).elt
        clear hb1
        go_wp2_with fail
        go_ret
        exact ⟨rfl, HB1.out⟩
      · obtain rfl : 5 = v := hvv
        clear h0 h6 HArg hs6
        go_enter Tryd.func30, Tryd.ntmps30
        go_wp2_with fail
        rw [← hW0]
        clear hW0
        refine (HA6.out _ HB0.out).mono ?_
        rintro e w1 ⟨rfl, hb1⟩
        have HB1 : Hid (Below w.heap.size w w1) := HB0.out.trans (hb1.mono HB0.out.size)
        have g0 := (HG.out.below HB1.out).e 1 5 rfl
        have gz := (HG.out.below HB1.out).elt
        clear hb1
        go_wp2_with fail
        go_ret
        exact ⟨rfl, HB1.out⟩
      · obtain rfl : 4 = v := hvv
        clear h0 h6 HArg hs6
        go_enter Tryd.func30, Tryd.ntmps30
        go_wp2_with fail
        rw [← hW0]
        clear hW0
        refine (HA6.out _ HB0.out).mono ?_
        rintro e w1 ⟨rfl, hb1⟩
        have HB1 : Hid (Below w.heap.size w w1) := HB0.out.trans (hb1.mono HB0.out.size)
        have g0 := (HG.out.below HB1.out).e 2 4 rfl
        have gz := (HG.out.below HB1.out).elt
        clear hb1
        go_wp2_with fail
        go_ret
        exact ⟨rfl, HB1.out⟩
      · have hmn : min s 2 = 2 := by omega
        obtain rfl : 4 = v := by rw [← hvv, hmn]; rfl
        clear h0 h6 HArg hvv hmn
        obtain ⟨s0, s6⟩ := hs6
        go_enter Tryd.func30, Tryd.ntmps30
        go_wp2_with fail
        rw [← hW0]
        clear hW0
        refine (HA6.out _ HB0.out).mono ?_
        rintro e w1 ⟨rfl, hb1⟩
        have HB1 : Hid (Below w.heap.size w w1) := HB0.out.trans (hb1.mono HB0.out.size)
        have g0 := (HG.out.below HB1.out).e 2 4 rfl
        have gz := (HG.out.below HB1.out).elt
        clear hb1
        go_wp2_with fail
        go_ret
        exact ⟨rfl, HB1.out⟩
    | false =>
      obtain rfl : 0 = v := by rw [← hvv]; rfl
      have HOp : Hid (n.op = 6) := h6
      clear h0 h6 HArg hvv hs6
      go_enter Tryd.func30, Tryd.ntmps30
      go_wp2_with fail
      rw [← hW0]
      clear hW0
      refine (HA6.out _ HB0.out).mono ?_
      rintro e w1 ⟨rfl, hb1⟩
      have HB1 : Hid (Below w.heap.size w w1) := HB0.out.trans (hb1.mono HB0.out.size)
      have g0 := (HG.out.below HB1.out).k 6 0 rfl
      have gz := (HG.out.below HB1.out).klt
      obtain ⟨n0, _, _, _, _, _, _, _, nz⟩ := node_box2 (HN.out _ hb1)
      rw [HOp.out] at n0
      clear hb1
      go_wp2_with fail
      go_ret
      exact ⟨rfl, HB1.out⟩
  rw [if_neg h6] at hvv
  have e6 := eq_f h6
  by_cases h7 : n.op = 7
  · rw [if_pos h7] at hvv
    have HA7 := HArg (by rw [r7 h7]; decide)
    have e7 := eq_t h7
    by_cases hc : q = true ∧ s = 0
    · obtain ⟨rfl, rfl⟩ := hc
      obtain rfl : 3 = v := hvv
      clear h0 h6 h7 HArg hs6
      go_enter Tryd.func30, Tryd.ntmps30
      go_wp2_with fail
      rw [← hW0]
      clear hW0
      refine (HA7.out _ HB0.out).mono ?_
      rintro e w1 ⟨rfl, hb1⟩
      have HB1 : Hid (Below w.heap.size w w1) := HB0.out.trans (hb1.mono HB0.out.size)
      clear hb1
      go_wp2_with fail
      go_ret
      exact ⟨rfl, HB1.out⟩
    · rw [if_neg hc] at hvv
      obtain rfl : 0 = v := hvv
      have HOp : Hid (n.op = 7) := h7
      cases q with
      | true =>
        have e8 : (s == 0) = false := eq_f (fun h => hc ⟨rfl, h⟩)
        clear h0 h6 h7 HArg hs6 hc
        go_enter Tryd.func30, Tryd.ntmps30
        go_wp2_with fail
        rw [← hW0]
        clear hW0
        refine (HA7.out _ HB0.out).mono ?_
        rintro e w1 ⟨rfl, hb1⟩
        have HB1 : Hid (Below w.heap.size w w1) := HB0.out.trans (hb1.mono HB0.out.size)
        have g0 := (HG.out.below HB1.out).k 7 0 rfl
        have gz := (HG.out.below HB1.out).klt
        obtain ⟨n0, _, _, _, _, _, _, _, nz⟩ := node_box2 (HN.out _ hb1)
        rw [HOp.out] at n0
        clear hb1
        go_wp2_with fail
        go_ret
        exact ⟨rfl, HB1.out⟩
      | false =>
        clear h0 h6 h7 HArg hs6 hc
        go_enter Tryd.func30, Tryd.ntmps30
        go_wp2_with fail
        rw [← hW0]
        clear hW0
        refine (HA7.out _ HB0.out).mono ?_
        rintro e w1 ⟨rfl, hb1⟩
        have HB1 : Hid (Below w.heap.size w w1) := HB0.out.trans (hb1.mono HB0.out.size)
        have g0 := (HG.out.below HB1.out).k 7 0 rfl
        have gz := (HG.out.below HB1.out).klt
        obtain ⟨n0, _, _, _, _, _, _, _, nz⟩ := node_box2 (HN.out _ hb1)
        rw [HOp.out] at n0
        clear hb1
        go_wp2_with fail
        go_ret
        exact ⟨rfl, HB1.out⟩
  rw [if_neg h7] at hvv
  have e7 := eq_f h7
  obtain ⟨p, hp⟩ : ∃ p : Nat, n.op = (p : Int) := ⟨n.op.toNat, by omega⟩
  have hkp : kindsL[p]? = some v := by
    rw [← hvv, hp, Int.toNat_natCast, List.getD_eq_getElem?_getD, List.getElem?_eq_getElem (by show p < 14; omega)]; rfl
  have g0 := (HG.out.below HB0.out).k p v hkp
  have gz := (HG.out.below HB0.out).klt
  have hp14 : (p : Int) < 14 := by omega
  have hp0 : (0 : Int) ≤ (p : Int) := by omega
  obtain ⟨op, len, a0, a1, a2, sort, fn, num⟩ := n
  obtain rfl : op = (p : Int) := hp
  rw [hW0] at g0 gz
  clear h0 h6 h7 HArg hvv hs6 hkp
  go_enter Tryd.func30, Tryd.ntmps30
  go_wp2_with fail
  go_ret
  exact ⟨rfl, by have := HB0.out; rw [hW0] at this; exact this⟩
end Go.Proofs.YtaiabpbcipnjaaaDoor.Tm
