/- Core: split, node, not, negation. -/
import Derived.Test.YtjibhkgphahbaaaDoorCoC
import Derived.Laws.CopyOwn
namespace Go.Proofs.YtjibhkgphahbaaaDoor.Tm
open Go.RowKit
set_option linter.unusedVariables false
theorem below_dN {B : Nat} {w w' : World} (h : Below B w w') {k : Nat} : Below B w (w'.drewN k) := ⟨h.os, h.tape, h.output, h.size, h.block⟩
set_option maxRecDepth 100000 in
theorem split_any (l : List NodeA) (a : Option Addr) (c k : Nat) (p : Int × Int) (w : World) (hA : TabR w l a c) (hk : k < l.length) (hl : l.length ≤ 3000) (hp : splitA l k = p) :
    Calls Tryd.prog 59 #[.slice a l.length c, .int .i64 k] w fun e w' => e = .returned (.tuple #[.int .i64 p.1, .int .i64 p.2]) ∧ Below w.heap.size w w' := by
  have hn := nodA_get hk
  obtain ⟨n, hnn⟩ : ∃ n, nodA l k = n := ⟨_, rfl⟩
  rw [hnn] at hn
  obtain ⟨g, o, rfl, hg, m0, m1, m2, m3, m4, m5, m6, m7⟩ := hA.node hn
  have hki : (k : Int) < (l.length : Int) := by omega
  have hk0 : (0 : Int) ≤ (k : Int) := by omega
  obtain ⟨W0, hW0⟩ : ∃ W0, W0 = w.alloc (.cells #[.int .i8 n.op, .int .i8 n.len, .int .i64 n.a0, .int .i64 n.a1, .int .i64 n.a2, .int .i64 n.sort, .int .i64 n.fn, .int .i64 n.num] 36) := ⟨_, rfl⟩
  have hn0 : W0.heap[w.heap.size]? = some (.cells #[.int .i8 n.op, .int .i8 n.len, .int .i64 n.a0, .int .i64 n.a1, .int .i64 n.a2, .int .i64 n.sort, .int .i64 n.fn, .int .i64 n.num] 36 (0, 0)) := by rw [hW0]; exact heap_alloc_new w _
  have HB : Hid (Below w.heap.size w W0) := by show Below _ _ _; rw [hW0]; exact (Below.refl _ w).alloc (Nat.le_refl _) _
  obtain ⟨n0, n1, n2, n3, n4, n5, n6, n7, zn⟩ := node_box hn0
  clear hn0 hn
  by_cases h10 : n.op = 10
  · have e0 := eq_t h10
    obtain rfl : (1, n.num) = p := by rw [← hp]; unfold splitA; rw [hnn, if_pos h10]
    clear h10 hp hnn
    go_enter Tryd.func59, Tryd.ntmps59
    go_wp2_with fail
    rw [← hW0]
    clear hW0 m0 m1 m2 m3 m4 m5 m6 m7
    go_quiet (fail)
    go_wp2_with fail
    go_ret2
    exact ⟨rfl, below_dN HB.out⟩
  have e0 := eq_f h10
  by_cases h11 : n.op = 11
  · have e1 := eq_t h11
    obtain rfl : (n.a0, n.num) = p := by rw [← hp]; unfold splitA; rw [hnn, if_neg h10, if_pos h11]
    clear h10 h11 hp hnn
    go_enter Tryd.func59, Tryd.ntmps59
    go_wp2_with fail
    rw [← hW0]
    clear hW0 m0 m1 m2 m3 m4 m5 m6 m7
    go_quiet (fail)
    go_wp2_with fail
    go_ret2
    exact ⟨rfl, below_dN HB.out⟩
  have e1 := eq_f h11
  obtain rfl : ((k : Int), 0) = p := by rw [← hp]; unfold splitA; rw [hnn, if_neg h10, if_neg h11]
  clear h10 h11 hp hnn
  go_enter Tryd.func59, Tryd.ntmps59
  go_wp2_with fail
  rw [← hW0]
  clear hW0 m0 m1 m2 m3 m4 m5 m6 m7
  go_ret2
  exact ⟨rfl, HB.out⟩
theorem intSz : (Tryd.prog.info? 3).map (·.size) = some 1 := by kernel_rfl
theorem set8 {w : World} {b : Nat} {t : TypeId} {a0 a1 a2 a3 a4 a5 a6 a7 v0 v1 v2 v3 v4 v5 v6 v7 : Value} (h : w.heap[b]? = some (.cells #[a0, a1, a2, a3, a4, a5, a6, a7] t (0, 0))) :
    ((((((((w.setCell ⟨b, 0, none⟩ v0).setCell ⟨b, 1, none⟩ v1).setCell ⟨b, 2, none⟩ v2).setCell ⟨b, 3, none⟩ v3).setCell ⟨b, 4, none⟩ v4).setCell ⟨b, 5, none⟩ v5).setCell ⟨b, 6, none⟩ v6).setCell ⟨b, 7, none⟩ v7).heap[b]? = some (.cells #[v0, v1, v2, v3, v4, v5, v6, v7] t (0, 0)) := by
  simp [World.setCell, Array.getElem?_modify, h]
theorem below_set8 {B b : Nat} {w w' : World} {v0 v1 v2 v3 v4 v5 v6 v7 : Value} (h : Below B w w') (hb : B ≤ b) : Below B w ((((((((w'.setCell ⟨b, 0, none⟩ v0).setCell ⟨b, 1, none⟩ v1).setCell ⟨b, 2, none⟩ v2).setCell ⟨b, 3, none⟩ v3).setCell ⟨b, 4, none⟩ v4).setCell ⟨b, 5, none⟩ v5).setCell ⟨b, 6, none⟩ v6).setCell ⟨b, 7, none⟩ v7) := ((((((((h.setCell (p := ⟨b, 0, none⟩) hb v0).setCell (p := ⟨b, 1, none⟩) hb v1).setCell (p := ⟨b, 2, none⟩) hb v2).setCell (p := ⟨b, 3, none⟩) hb v3).setCell (p := ⟨b, 4, none⟩) hb v4).setCell (p := ⟨b, 5, none⟩) hb v5).setCell (p := ⟨b, 6, none⟩) hb v6).setCell (p := ⟨b, 7, none⟩) hb v7)
/-- The eight cells of a row. -/
theorem row8 {w : World} {b : Nat} {t : TypeId} {v0 v1 v2 v3 v4 v5 v6 v7 : Value} (h : w.heap[b]? = some (.cells #[v0, v1, v2, v3, v4, v5, v6, v7] t (0, 0))) : w.cell? ⟨b, 0, none⟩ = some v0 ∧ w.cell? ⟨b, 1, none⟩ = some v1 ∧ w.cell? ⟨b, 2, none⟩ = some v2 ∧ w.cell? ⟨b, 3, none⟩ = some v3 ∧ w.cell? ⟨b, 4, none⟩ = some v4 ∧ w.cell? ⟨b, 5, none⟩ = some v5 ∧ w.cell? ⟨b, 6, none⟩ = some v6 ∧ w.cell? ⟨b, 7, none⟩ = some v7 ∧ b < w.heap.size ∧ (∀ i, w.frozen? ⟨b, i, none⟩ = false) :=
  ⟨(cell_of_row _ _ 0 _ _ _ h).trans rfl, (cell_of_row _ _ 1 _ _ _ h).trans rfl, (cell_of_row _ _ 2 _ _ _ h).trans rfl, (cell_of_row _ _ 3 _ _ _ h).trans rfl, (cell_of_row _ _ 4 _ _ _ h).trans rfl, (cell_of_row _ _ 5 _ _ _ h).trans rfl, (cell_of_row _ _ 6 _ _ _ h).trans rfl, (cell_of_row _ _ 7 _ _ _ h).trans rfl, (Array.getElem?_eq_some_iff.1 h).1, fun i => by simp [World.frozen?, h]⟩
set_option maxRecDepth 100000 in
set_option maxHeartbeats 1000000 in
theorem node1_any (op a : Int) (B : Nat) (ty : TypeId) (w : World) (hB : w.heap[B]? = some (.cells #[.int .i64 a] ty (0, 0))) :
    Calls Tryd.prog 66 #[.int .i8 op, .slice (some ⟨B, 0, none⟩) 1 1] w fun e w' => e = .returned (.agg #[.int .i8 op, .int .i8 1, .int .i64 a, .int .i64 0, .int .i64 0, .int .i64 0, .int .i64 0, .int .i64 0]) ∧ Below w.heap.size w w' := by
  obtain ⟨WA, hWA⟩ : ∃ WA, WA = w.alloc (.cells #[.int .i8 0, .int .i8 0, .int .i64 0, .int .i64 0, .int .i64 0, .int .i64 0, .int .i64 0, .int .i64 0] 36) := ⟨_, rfl⟩
  obtain ⟨W0, hW0⟩ : ∃ W0, W0 = WA.alloc (.cells #[.int .i8 op, .int .i8 1, .int .i64 0, .int .i64 0, .int .i64 0, .int .i64 0, .int .i64 0, .int .i64 0] 36) := ⟨_, rfl⟩
  have hsz : WA.heap.size = w.heap.size + 1 := by rw [hWA]; simp
  have hbA : Below w.heap.size w WA := by rw [hWA]; exact (Below.refl _ w).alloc (Nat.le_refl _) _
  have hb0 : Below WA.heap.size WA W0 := by rw [hW0]; exact (Below.refl _ WA).alloc (Nat.le_refl _) _
  have hg0 : W0.heap[WA.heap.size]? = some (.cells [.int .i8 op, .int .i8 1, .int .i64 0, .int .i64 0, .int .i64 0, .int .i64 0, .int .i64 0, .int .i64 0].toArray 36 (0, 0)) := by rw [hW0]; exact heap_alloc_new WA _
  have hr0 : WA.heap[w.heap.size]? = some (.cells #[.int .i8 0, .int .i8 0, .int .i64 0, .int .i64 0, .int .i64 0, .int .i64 0, .int .i64 0, .int .i64 0] 36 (0, 0)) := by rw [hWA]; exact heap_alloc_new w _
  have hB0 : W0.heap[B]? = some (.cells #[.int .i64 a] ty (0, 0)) := ((hb0.block _ (by have := (Array.getElem?_eq_some_iff.1 hB).1; omega)).trans (hbA.block _ (Array.getElem?_eq_some_iff.1 hB).1)).trans hB
  have hs0 : ∀ j u, ([.int .i64 a] : List Value)[j]? = some u → W0.cell? ((⟨B, 0, none⟩ : Addr).add j) = some u := at_add (fun i v hv => by
    rw [Nat.zero_add]
    exact (cell_of_row _ _ i _ _ _ hB0).trans (by rw [List.getElem?_toArray]; exact hv))
  rw [hsz] at hb0 hg0
  have HA := Lib.hid hbA
  have HB0 := Lib.hid hb0
  have HG := Lib.hid hg0
  have HS := Lib.hid hs0
  have HR := Lib.hid (And.intro hr0 (show w.heap.size < WA.heap.size by omega))
  have HZ := Lib.hid hsz
  clear hbA hb0 hg0 hs0 hr0 hB0 hB hsz
  subst hW0
  subst hWA
  go_enter Tryd.func66, Tryd.ntmps66
  go_wp2_with (with_reducible refine wpList_copy_splice rfl _ _ _ _ rfl 3 Tryd.underlying25 intSz _ _ 3 3 1 1 rfl rfl (w.heap.size + 1) 2 [.int .i8 op, .int .i8 1, .int .i64 0, .int .i64 0, .int .i64 0, .int .i64 0, .int .i64 0, .int .i64 0] 36 HG.out [.int .i64 a] rfl (fun _ => ⟨rfl, _, rfl, HS.out⟩) (by simp) (by simp [Value.oneCell']) (w.heap.size + 1) _ HB0.out (Nat.le_refl _) ?_; intro w3 hg3 hb3; (have h3 : w3.heap[w.heap.size + 1]? = some (.cells #[.int .i8 op, .int .i8 1, .int .i64 a, .int .i64 0, .int .i64 0, .int .i64 0, .int .i64 0, .int .i64 0] 36 (0, 0)) := (by have := hg3.out; simpa [splice] using this); have hr3 : w3.heap[w.heap.size]? = some (.cells #[.int .i8 0, .int .i8 0, .int .i64 0, .int .i64 0, .int .i64 0, .int .i64 0, .int .i64 0, .int .i64 0] 36 (0, 0)) := (hb3.block _ (by omega)).trans HR.out.1; have HB3 := Lib.hid (HA.out.trans (hb3.mono (by have := HZ.out; omega))); have HR3 := Lib.hid hr3; obtain ⟨q0, q1, q2, q3, q4, q5, q6, q7, qz, _⟩ := row8 h3; obtain ⟨r0, r1, r2, r3, r4, r5, r6, r7, rz, rf⟩ := row8 hr3; clear hg3 hb3 h3 hr3))
  obtain ⟨x0, x1, x2, x3, x4, x5, x6, x7, _, _⟩ := row8 (set8 (v0 := .int .i8 op) (v1 := .int .i8 1) (v2 := .int .i64 a) (v3 := .int .i64 0) (v4 := .int .i64 0) (v5 := .int .i64 0) (v6 := .int .i64 0) (v7 := .int .i64 0) HR3.out)
  refine bodyPost_ret (v := .agg #[.int .i8 op, .int .i8 1, .int .i64 a, .int .i64 0, .int .i64 0, .int .i64 0, .int .i64 0, .int .i64 0]) (by simp [results, Tryd.results66, go_sem, x0, x1, x2, x3, x4, x5, x6, x7]) rfl ⟨rfl, below_set8 HB3.out (Nat.le_refl _)⟩
set_option maxRecDepth 100000 in
set_option maxHeartbeats 1000000 in
theorem node2_any (op a b : Int) (B : Nat) (ty : TypeId) (w : World) (hB : w.heap[B]? = some (.cells #[.int .i64 a, .int .i64 b] ty (0, 0))) :
    Calls Tryd.prog 66 #[.int .i8 op, .slice (some ⟨B, 0, none⟩) 2 2] w fun e w' => e = .returned (.agg #[.int .i8 op, .int .i8 2, .int .i64 a, .int .i64 b, .int .i64 0, .int .i64 0, .int .i64 0, .int .i64 0]) ∧ Below w.heap.size w w' := by
  obtain ⟨WA, hWA⟩ : ∃ WA, WA = w.alloc (.cells #[.int .i8 0, .int .i8 0, .int .i64 0, .int .i64 0, .int .i64 0, .int .i64 0, .int .i64 0, .int .i64 0] 36) := ⟨_, rfl⟩
  obtain ⟨W0, hW0⟩ : ∃ W0, W0 = WA.alloc (.cells #[.int .i8 op, .int .i8 2, .int .i64 0, .int .i64 0, .int .i64 0, .int .i64 0, .int .i64 0, .int .i64 0] 36) := ⟨_, rfl⟩
  have hsz : WA.heap.size = w.heap.size + 1 := by rw [hWA]; simp
  have hbA : Below w.heap.size w WA := by rw [hWA]; exact (Below.refl _ w).alloc (Nat.le_refl _) _
  have hb0 : Below WA.heap.size WA W0 := by rw [hW0]; exact (Below.refl _ WA).alloc (Nat.le_refl _) _
  have hg0 : W0.heap[WA.heap.size]? = some (.cells [.int .i8 op, .int .i8 2, .int .i64 0, .int .i64 0, .int .i64 0, .int .i64 0, .int .i64 0, .int .i64 0].toArray 36 (0, 0)) := by rw [hW0]; exact heap_alloc_new WA _
  have hr0 : WA.heap[w.heap.size]? = some (.cells #[.int .i8 0, .int .i8 0, .int .i64 0, .int .i64 0, .int .i64 0, .int .i64 0, .int .i64 0, .int .i64 0] 36 (0, 0)) := by rw [hWA]; exact heap_alloc_new w _
  have hB0 : W0.heap[B]? = some (.cells #[.int .i64 a, .int .i64 b] ty (0, 0)) := ((hb0.block _ (by have := (Array.getElem?_eq_some_iff.1 hB).1; omega)).trans (hbA.block _ (Array.getElem?_eq_some_iff.1 hB).1)).trans hB
  have hs0 : ∀ j u, ([.int .i64 a, .int .i64 b] : List Value)[j]? = some u → W0.cell? ((⟨B, 0, none⟩ : Addr).add j) = some u := at_add (fun i v hv => by
    rw [Nat.zero_add]
    exact (cell_of_row _ _ i _ _ _ hB0).trans (by rw [List.getElem?_toArray]; exact hv))
  rw [hsz] at hb0 hg0
  have HA := Lib.hid hbA
  have HB0 := Lib.hid hb0
  have HG := Lib.hid hg0
  have HS := Lib.hid hs0
  have HR := Lib.hid (And.intro hr0 (show w.heap.size < WA.heap.size by omega))
  have HZ := Lib.hid hsz
  clear hbA hb0 hg0 hs0 hr0 hB0 hB hsz
  subst hW0
  subst hWA
  go_enter Tryd.func66, Tryd.ntmps66
  go_wp2_with (with_reducible refine wpList_copy_splice rfl _ _ _ _ rfl 3 Tryd.underlying25 intSz _ _ 3 3 2 2 rfl rfl (w.heap.size + 1) 2 [.int .i8 op, .int .i8 2, .int .i64 0, .int .i64 0, .int .i64 0, .int .i64 0, .int .i64 0, .int .i64 0] 36 HG.out [.int .i64 a, .int .i64 b] rfl (fun _ => ⟨rfl, _, rfl, HS.out⟩) (by simp) (by simp [Value.oneCell']) (w.heap.size + 1) _ HB0.out (Nat.le_refl _) ?_; intro w3 hg3 hb3; (have h3 : w3.heap[w.heap.size + 1]? = some (.cells #[.int .i8 op, .int .i8 2, .int .i64 a, .int .i64 b, .int .i64 0, .int .i64 0, .int .i64 0, .int .i64 0] 36 (0, 0)) := (by have := hg3.out; simpa [splice] using this); have hr3 : w3.heap[w.heap.size]? = some (.cells #[.int .i8 0, .int .i8 0, .int .i64 0, .int .i64 0, .int .i64 0, .int .i64 0, .int .i64 0, .int .i64 0] 36 (0, 0)) := (hb3.block _ (by omega)).trans HR.out.1; have HB3 := Lib.hid (HA.out.trans (hb3.mono (by have := HZ.out; omega))); have HR3 := Lib.hid hr3; obtain ⟨q0, q1, q2, q3, q4, q5, q6, q7, qz, _⟩ := row8 h3; obtain ⟨r0, r1, r2, r3, r4, r5, r6, r7, rz, rf⟩ := row8 hr3; clear hg3 hb3 h3 hr3))
  obtain ⟨x0, x1, x2, x3, x4, x5, x6, x7, _, _⟩ := row8 (set8 (v0 := .int .i8 op) (v1 := .int .i8 2) (v2 := .int .i64 a) (v3 := .int .i64 b) (v4 := .int .i64 0) (v5 := .int .i64 0) (v6 := .int .i64 0) (v7 := .int .i64 0) HR3.out)
  refine bodyPost_ret (v := .agg #[.int .i8 op, .int .i8 2, .int .i64 a, .int .i64 b, .int .i64 0, .int .i64 0, .int .i64 0, .int .i64 0]) (by simp [results, Tryd.results66, go_sem, x0, x1, x2, x3, x4, x5, x6, x7]) rfl ⟨rfl, below_set8 HB3.out (Nat.le_refl _)⟩
/-- Where the box of a call's node is, and what is others'. -/
structure NdB (w W0 : World) (P : Nat → Prop) (M : Nat) (most : Int) (s : MkS) (n : NodeA) : Prop where
  mr : MkR W0 (And1 P w.heap.size) M most s
  kp : Kp P w W0
  box : W0.heap[w.heap.size]? = some (.cells #[.int .i8 n.op, .int .i8 n.len, .int .i64 n.a0, .int .i64 n.a1, .int .i64 n.a2, .int .i64 n.sort, .int .i64 n.fn, .int .i64 n.num] 36 (0, 0))
theorem ndB {w : World} {P : Nat → Prop} {M : Nat} {most : Int} {s : MkS} (h : MkR w P M most s) (n : NodeA) : NdB w (w.alloc (.cells #[.int .i8 n.op, .int .i8 n.len, .int .i64 n.a0, .int .i64 n.a1, .int .i64 n.a2, .int .i64 n.sort, .int .i64 n.fn, .int .i64 n.num] 36)) P M most s n :=
  ⟨h.box _, Kp.box _ (fun k hk => h.lt hk), heap_alloc_new w _⟩
theorem NdB.post {w W0 V : World} {P : Nat → Prop} {M : Nat} {most : Int} {s : MkS} {n : NodeA} (h : NdB w W0 P M most s n) {r : MkS × Int} {p : Int} (hv : MkR V (And1 P w.heap.size) M most r.1) (hk : Kp (And1 P w.heap.size) W0 V) (hp : r.2 = p) : MkPost P M most w r (.returned (.int .i64 p)) V := by
  subst hp
  exact ⟨rfl, hv.less (fun _ h => .inl h), h.kp.trans (hk.less (fun _ h => .inl h))⟩
theorem NdB.cells {w W0 V : World} {P : Nat → Prop} {M : Nat} {most : Int} {s : MkS} {n : NodeA} (h : NdB w W0 P M most s n) (hk : Kp (And1 P w.heap.size) W0 V) : V.cell? ⟨w.heap.size, 0, none⟩ = some (.int .i8 n.op) ∧ V.cell? ⟨w.heap.size, 1, none⟩ = some (.int .i8 n.len) ∧ V.cell? ⟨w.heap.size, 2, none⟩ = some (.int .i64 n.a0) ∧ V.cell? ⟨w.heap.size, 3, none⟩ = some (.int .i64 n.a1) ∧ V.cell? ⟨w.heap.size, 4, none⟩ = some (.int .i64 n.a2) ∧ V.cell? ⟨w.heap.size, 5, none⟩ = some (.int .i64 n.sort) ∧ V.cell? ⟨w.heap.size, 6, none⟩ = some (.int .i64 n.fn) ∧ V.cell? ⟨w.heap.size, 7, none⟩ = some (.int .i64 n.num) ∧ w.heap.size < V.heap.size :=
  node_box ((hk.keep _ (.inr rfl)).trans h.box)
theorem MkR.lts {w : World} {P : Nat → Prop} {M : Nat} {most : Int} {s : MkS} (h : MkR w P M most s) : ∀ k, P k → k < w.heap.size := fun k hk => h.lt hk
theorem kp_dN {P : Nat → Prop} {w : World} {k : Nat} : Kp P w (w.drewN k) := (Kp.refl _ _).drewN _
end Go.Proofs.YtjibhkgphahbaaaDoor.Tm
