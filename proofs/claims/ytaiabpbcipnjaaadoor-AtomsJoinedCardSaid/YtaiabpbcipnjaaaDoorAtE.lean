/- Atoms: the sorts of a node's arguments; what a node is. -/
import Derived.Test.YtaiabpbcipnjaaaDoorAtD
namespace Go.Proofs.YtaiabpbcipnjaaaDoor.Tm
open Go.RowKit
set_option linter.unusedVariables false
def kindsL : List Int := [1, 2, 3, 3, 3, 3, 0, 0, 7, 7, 0, 0, 6, 8]
def eqsL : List Int := [3, 5, 4]
/-- What package atoms, and term, find in their variables. -/
structure GK (w : World) : Prop where
  t : GT w
  klt : 1 < w.heap.size
  k : ∀ i v, kindsL[i]? = some v → w.cell? ⟨1, i, none⟩ = some (.int .i8 v)
  elt : 0 < w.heap.size
  e : ∀ i v, eqsL[i]? = some v → w.cell? ⟨0, i, none⟩ = some (.int .i8 v)
theorem GK.below {w w' : World} (h : GK w) (hb : Below w.heap.size w w') : GK w' :=
  ⟨h.t.below hb, Nat.lt_of_lt_of_le h.klt hb.size, fun i v hi => (hb.cell (p := ⟨_, i, none⟩) h.klt).trans (h.k i v hi), Nat.lt_of_lt_of_le h.elt hb.size, fun i v hi => (hb.cell (p := ⟨_, i, none⟩) h.elt).trans (h.e i v hi)⟩
/-- The node's arguments stand in the table. -/
structure InA (l : List NodeA) (n : NodeA) : Prop where
  lo : 0 ≤ n.len
  hi : n.len ≤ 3
  arg : ∀ j : Nat, (j : Int) < n.len → 0 ≤ argA n j ∧ argA n j < (l.length : Int)
theorem stands_in {l : List NodeA} {k : Nat} {n : NodeA} (h : okFrom [] l = true) (hk : l[k]? = some n) : InA l n := by
  have hlt := (List.getElem?_eq_some_iff.1 hk).1
  have h2 := (ok_at h hk).1
  unfold standsB at h2
  rw [decide_eq_true_eq] at h2
  have h4 := (stands_iff n k).1 h2
  refine ⟨h4.1.2.2.1, h4.1.2.2.2, fun j hj => ?_⟩
  have h5 := (h4.2.1 j (by have := h4.1.2.2.2; omega)).1 hj
  omega
def argsL (n : NodeA) (m : Nat) : List Int := (List.range m).map (fun j => argA n j)
theorem argsL_len (n : NodeA) (m : Nat) : (argsL n m).length = m := by unfold argsL; simp
theorem argsL_get {n : NodeA} {m j : Nat} {x : Int} (h : (argsL n m)[j]? = some x) : j < m ∧ x = argA n j := by
  have hl := (List.getElem?_eq_some_iff.1 h).1
  rw [argsL_len] at hl
  unfold argsL at h
  rw [List.getElem?_map, List.getElem?_range hl] at h
  exact ⟨hl, (Option.some.inj h).symm⟩
/-- All arguments are of one sort. -/
def sameA (l : List NodeA) (n : NodeA) : Bool := !(argsL n n.len.toNat).any (otherB l (nodA l n.a0).sort)
theorem node_box2 {w : World} {b : Nat} {op len a0 a1 a2 sort fn num : Int} (h : w.heap[b]? = some (.cells #[.int .i8 op, .int .i8 len, .int .i64 a0, .int .i64 a1, .int .i64 a2, .int .i64 sort, .int .i64 fn, .int .i64 num] 34 (0, 0))) :
    w.cell? ⟨b, 0, none⟩ = some (.int .i8 op) ∧ w.cell? ⟨b, 1, none⟩ = some (.int .i8 len) ∧ w.cell? ⟨b, 2, none⟩ = some (.int .i64 a0) ∧ w.cell? ⟨b, 3, none⟩ = some (.int .i64 a1) ∧ w.cell? ⟨b, 4, none⟩ = some (.int .i64 a2) ∧ w.cell? ⟨b, 5, none⟩ = some (.int .i64 sort) ∧ w.cell? ⟨b, 6, none⟩ = some (.int .i64 fn) ∧ w.cell? ⟨b, 7, none⟩ = some (.int .i64 num) ∧ b < w.heap.size :=
  ⟨(cell_of_row _ _ 0 _ _ _ h).trans rfl, (cell_of_row _ _ 1 _ _ _ h).trans rfl, (cell_of_row _ _ 2 _ _ _ h).trans rfl, (cell_of_row _ _ 3 _ _ _ h).trans rfl, (cell_of_row _ _ 4 _ _ _ h).trans rfl, (cell_of_row _ _ 5 _ _ _ h).trans rfl, (cell_of_row _ _ 6 _ _ _ h).trans rfl, (cell_of_row _ _ 7 _ _ _ h).trans rfl, (Array.getElem?_eq_some_iff.1 h).1⟩
theorem args_ints {w : World} {b : Nat} {n : NodeA} (h : w.heap[b]? = some (.cells #[.int .i8 n.op, .int .i8 n.len, .int .i64 n.a0, .int .i64 n.a1, .int .i64 n.a2, .int .i64 n.sort, .int .i64 n.fn, .int .i64 n.num] 34 (0, 0))) (hn : NodeOk n) (m : Nat) (hm : m ≤ 3) : IntsR w (argsL n m) (some ⟨b, 2, none⟩) 3 := by
  obtain ⟨_, _, n2, n3, n4, _, _, _, bz⟩ := node_box2 h
  refine ⟨by rw [argsL_len]; exact hm, by decide, fun _ => ⟨b, 2, rfl, bz, fun i v hv => ?_⟩, fun x hx => ?_⟩
  · rw [List.getElem?_map] at hv
    obtain ⟨x, hx, rfl⟩ := Option.map_eq_some_iff.1 hv
    obtain ⟨hi, rfl⟩ := argsL_get hx
    have hc : i = 0 ∨ i = 1 ∨ i = 2 := by omega
    rcases hc with rfl | rfl | rfl
    · exact n2
    · exact n3
    · exact n4
  · obtain ⟨i, hi⟩ := List.getElem?_of_mem hx
    obtain ⟨hi, rfl⟩ := argsL_get hi
    have hc : i = 0 ∨ i = 1 ∨ i = 2 := by omega
    rcases hc with rfl | rfl | rfl
    · exact hn.a0
    · exact hn.a1
    · exact hn.a2
set_option maxRecDepth 100000 in
set_option maxHeartbeats 2000000 in
theorem argSort_any (l : List NodeA) (a : Option Addr) (c : Nat) (n : NodeA) (w : World) (hA : TabR w l a c) (hl : l.length ≤ 3000) (hn : NodeOk n) (hI : InA l n) (h1 : 1 ≤ n.len) :
    Calls Tryd.prog 39 #[.agg #[.slice a l.length c], .agg #[.int .i8 n.op, .int .i8 n.len, .int .i64 n.a0, .int .i64 n.a1, .int .i64 n.a2, .int .i64 n.sort, .int .i64 n.fn, .int .i64 n.num]] w fun e w' => e = .returned (.tuple #[.int .i64 (nodA l n.a0).sort, .bool (sameA l n)]) ∧ Below w.heap.size w w' := by
  have ha0 : 0 ≤ n.a0 ∧ n.a0 < (l.length : Int) := hI.arg 0 (by omega)
  obtain ⟨k0, hk0⟩ : ∃ k0 : Nat, n.a0 = (k0 : Int) := ⟨n.a0.toNat, by omega⟩
  obtain ⟨y, hy⟩ : ∃ y, l[k0]? = some y := ⟨_, List.getElem?_eq_getElem (by omega)⟩
  obtain ⟨m, hm⟩ : ∃ m : Nat, n.len = (m : Int) := ⟨n.len.toNat, by omega⟩
  have hm3 : m ≤ 3 := by have := hI.hi; omega
  have hm1 : 1 ≤ m := by omega
  obtain ⟨t, ht⟩ : ∃ t, (argsL n m).any (otherB l y.sort) = t := ⟨_, rfl⟩
  have hs : sameA l n = !t := by unfold sameA; rw [hm, Int.toNat_natCast, hk0, nodA_at hy, ht]
  have hy0 : (nodA l n.a0).sort = y.sort := by rw [hk0, nodA_at hy]
  rw [hs, hy0]
  have hargs : ∀ x ∈ argsL n m, ∃ k : Nat, x = (k : Int) ∧ k < l.length := fun x hx => by
    obtain ⟨i, hi⟩ := List.getElem?_of_mem hx
    obtain ⟨hi, rfl⟩ := argsL_get hi
    have := hI.arg i (by omega)
    exact ⟨(argA n i).toNat, by omega, by omega⟩
  obtain ⟨W0, hW0⟩ : ∃ W0, W0 = ((w.alloc (.cells #[.slice a l.length c] 24)).alloc (.cells #[.int .i8 n.op, .int .i8 n.len, .int .i64 n.a0, .int .i64 n.a1, .int .i64 n.a2, .int .i64 n.sort, .int .i64 n.fn, .int .i64 n.num] 34)).alloc (.cells #[.int .i64 y.sort] 3) := ⟨_, rfl⟩
  have hB0 : Below w.heap.size w W0 := by rw [hW0]; exact (((Below.refl _ w).alloc (Nat.le_refl _) _).alloc (by simp) _).alloc (by simp; omega) _
  have hX0 : W0.heap[w.heap.size]? = some (.cells #[.slice a l.length c] 24 (0, 0)) := by rw [hW0]; exact (Below.heap_alloc _ _ _ (by simp; omega)).trans ((Below.heap_alloc _ _ _ (by simp)).trans (heap_alloc_new w _))
  have hN0 : W0.heap[w.heap.size + 1]? = some (.cells #[.int .i8 n.op, .int .i8 n.len, .int .i64 n.a0, .int .i64 n.a1, .int .i64 n.a2, .int .i64 n.sort, .int .i64 n.fn, .int .i64 n.num] 34 (0, 0)) := by
    have := heap_alloc_new (w.alloc (.cells #[.slice a l.length c] 24)) (.cells #[.int .i8 n.op, .int .i8 n.len, .int .i64 n.a0, .int .i64 n.a1, .int .i64 n.a2, .int .i64 n.sort, .int .i64 n.fn, .int .i64 n.num] 34)
    rw [World.size_alloc] at this
    rw [hW0]; exact (Below.heap_alloc _ _ _ (by simp)).trans this
  have hS0 : W0.heap[w.heap.size + 1 + 1]? = some (.cells #[.int .i64 y.sort] 3 (0, 0)) := by
    have := heap_alloc_new ((w.alloc (.cells #[.slice a l.length c] 24)).alloc (.cells #[.int .i8 n.op, .int .i8 n.len, .int .i64 n.a0, .int .i64 n.a1, .int .i64 n.a2, .int .i64 n.sort, .int .i64 n.fn, .int .i64 n.num] 34)) (.cells #[.int .i64 y.sort] 3)
    simp only [World.size_alloc] at this
    rw [hW0]; exact this
  have HSK : Hid (∀ V, Below W0.heap.size W0 V → V.cell? ⟨w.heap.size + 1 + 1, 0, none⟩ = some (.int .i64 y.sort) ∧ V.cell? ⟨w.heap.size + 1, 1, none⟩ = some (.int .i8 m) ∧ w.heap.size + 1 < V.heap.size ∧ w.heap.size + 1 + 1 < V.heap.size) := fun V hV => by
    have e1 := (hV.block _ (Array.getElem?_eq_some_iff.1 hN0).1).trans hN0
    have e2 := (hV.block _ (Array.getElem?_eq_some_iff.1 hS0).1).trans hS0
    obtain ⟨_, n1, _, _, _, _, _, _, nz⟩ := node_box2 e1
    rw [hm] at n1
    exact ⟨(cell_of_row _ _ 0 _ _ _ e2).trans rfl, n1, nz, (Array.getElem?_eq_some_iff.1 e2).1⟩
  have HC : Hid (∀ V, Below W0.heap.size W0 V → Calls Tryd.prog 26 #[.slice (some ⟨w.heap.size + 1, 2, none⟩) m 3, .func (.func 43) #[] #[.pointer (some ⟨w.heap.size, 0, none⟩), .pointer (some ⟨w.heap.size + 1 + 1, 0, none⟩)]] V fun e w' => e = .returned (.bool t) ∧ Below W0.heap.size W0 w') := fun V hV => by
    have hVw := hB0.trans (hV.mono hB0.size)
    have hI3 := args_ints ((hV.block _ (Array.getElem?_eq_some_iff.1 hN0).1).trans hN0) hn m hm3
    have h := ContainsS_any (otherB l y.sort) w.heap.size (w.heap.size + 1 + 1) (argsL n m) (some ⟨w.heap.size + 1, 2, none⟩) 3 t V hI3 (by rw [argsL_len]; omega) (fun U x hU hx => by
      obtain ⟨k, rfl, hk⟩ := hargs x hx
      exact other1_any l a c w.heap.size (w.heap.size + 1 + 1) y.sort k U (hA.below (hVw.trans (hU.mono hVw.size))) hl hk ((hU.block _ (by have := (Array.getElem?_eq_some_iff.1 hX0).1; have := hV.size; omega)).trans ((hV.block _ (Array.getElem?_eq_some_iff.1 hX0).1).trans hX0)) ((hU.block _ (by have := (Array.getElem?_eq_some_iff.1 hS0).1; have := hV.size; omega)).trans ((hV.block _ (Array.getElem?_eq_some_iff.1 hS0).1).trans hS0))) ht
    rw [argsL_len] at h
    exact h.mono fun e w' ⟨h1, h2⟩ => ⟨h1, hV.trans (h2.mono hV.size)⟩
  obtain ⟨g, o, rfl, hg, _, _, _, _, _, q5, _⟩ := hA.node hy
  have HB0 := Lib.hid hB0
  have hki : (k0 : Int) < (l.length : Int) := by omega
  have hkn : (0 : Int) ≤ (k0 : Int) := by omega
  have hmi : (m : Int) ≤ 3 := by omega
  have hm0 : (0 : Int) ≤ (m : Int) := by omega
  have HBr : Hid (Below W0.heap.size W0 W0) := Below.refl _ _
  have hcap := hA.le
  obtain ⟨op, len, a0, a1, a2, sort, fn, num⟩ := n
  obtain rfl : len = (m : Int) := hm
  obtain rfl : a0 = (k0 : Int) := hk0
  have p5 : ∀ o1 o2 : Obj, ((w.alloc o1).alloc o2).cell? ⟨g, o + k0 * 8 + 5, none⟩ = some (.int .i64 y.sort) := fun o1 o2 => (World.cell?_alloc_lt _ _ _ (by simp; omega)).trans ((World.cell?_alloc_lt _ _ _ hg).trans q5)
  have hg2 : g < w.heap.size + 1 + 1 := by omega
  clear hA hI hn hB0 hX0 hN0 hS0 hy hs hy0 ht hargs ha0 h1 hm3 q5
  go_enter Tryd.func39, Tryd.ntmps39
  go_wp2_with fail
  rw [← hW0]
  clear hW0 p5
  obtain ⟨s0, n1, nz, sz⟩ := HSK.out _ HBr.out
  go_region_held3 (fun V => V.cell? ⟨w.heap.size + 1 + 1, 0, none⟩ = some (.int .i64 y.sort) ∧ V.cell? ⟨w.heap.size + 1, 1, none⟩ = some (.int .i8 m)) (first | exact ⟨s0, n1⟩ | go_keep) (first
    | (go_at_call 26; refine (HC.out _ (by first | exact HBr.out | exact HBr.out.drew)).mono ?_; rintro e w2 ⟨rfl, hb2⟩; have HB2 := Lib.hid hb2; clear hb2 s0 n1 nz sz; obtain ⟨s0, n1, nz, sz⟩ := HSK.out _ HB2.out))
  all_goals
    clear s0 n1 nz sz
    go_wp2_with fail
    go_ret2
    first | exact ⟨rfl, HB0.out.trans (HB2.out.mono HB0.out.size)⟩ | exact ⟨rfl, HB0.out.trans (HB2.out.drew.mono HB0.out.size)⟩
end Go.Proofs.YtaiabpbcipnjaaaDoor.Tm
