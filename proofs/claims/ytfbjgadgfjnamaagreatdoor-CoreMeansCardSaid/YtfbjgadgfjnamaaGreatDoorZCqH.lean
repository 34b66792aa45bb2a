/- Core again: the document's Is, of a core table. -/
import Derived.Test.YtfbjgadgfjnamaaGreatDoorZCqF
namespace Go.Proofs.YtfbjgadgfjnamaaGreatDoor.Tm
open Go.RowKit
set_option linter.unusedVariables false
set_option maxRecDepth 100000 in
set_option maxHeartbeats 8000000 in
theorem RKinds_any (l : List NodeA) (h : Cl l) (a : Option Addr) (c k : Nat) (w : World) (hA : TabR w l a c) (hk : k < l.length) :
    Calls Tryz.prog 42 #[.agg #[.slice a l.length c], .int .i64 k] w fun e w' => e = .returned (.bool true) ∧ Below w.heap.size w w' := by
  have hll := h.len
  have hcap := hA.le
  obtain ⟨n, hn⟩ : ∃ n, nodA l k = n := ⟨_, rfl⟩
  have hg := nodA_get hk
  rw [hn] at hg
  have hmem := List.mem_of_getElem? hg
  obtain ⟨g, o, rfl, hgz, q0, q1, q2, q3, q4, q5, q6, q7⟩ := hA.node hg
  have hki : (k : Int) < (l.length : Int) := by omega
  have hk0 : (0 : Int) ≤ (k : Int) := by omega
  obtain ⟨g4, g5, g8, g9⟩ := h.no4 n hmem
  have d4 := eq_f g4
  have d5 := eq_f g5
  have d8 := eq_f g8
  have d9 := eq_f g9
  have gz1 : g < w.heap.size + 1 := by omega
  have gz2 : g < w.heap.size + 1 + 1 := by omega
  have gz3 : g < w.heap.size + 1 + 1 + 1 := by omega
  have ne0 : g ≠ w.heap.size := by omega
  have ne1 : g ≠ w.heap.size + 1 := by omega
  have ne2 : g ≠ w.heap.size + 1 + 1 := by omega
  have hb3 : ∀ o1 o2 o3, Below w.heap.size w (((w.alloc o1).alloc o2).alloc o3) := fun o1 o2 o3 => (((Below.refl _ w).alloc (Nat.le_refl _) _).alloc (by simp) _).alloc (by simp; omega) _
  have HB3 := Lib.hid hb3
  clear hb3
  obtain ⟨_, _, harg⟩ := stands_args (h.st hg)
  by_cases h1 : n.op = 1
  · have d1 := eq_t h1
    have hl : n.len = 1 := by rw [← hn] at h1 ⊢; exact h.len_ hk h1 (by decide)
    have ha0 : 0 ≤ n.a0 ∧ n.a0 < (k : Int) := harg 0 (by omega)
    obtain ⟨m, hm⟩ : ∃ m : Nat, n.a0 = (m : Int) := ⟨n.a0.toNat, by omega⟩
    have hml : m < l.length := by omega
    obtain ⟨g2, o2, e2, _, p0, -⟩ := hA.node (nodA_get hml)
    cases e2
    have hnn := h.nn n hmem h1
    rw [hm] at hnn q2
    have f1 := ne_t hnn
    have hmi : (m : Int) < (l.length : Int) := by omega
    have hm0 : (0 : Int) ≤ (m : Int) := by omega
    clear hA hn hg hmem g4 g5 g8 g9 h1 harg ha0 hm hnn hl
    go_enter Tryz.func42, Tryz.ntmps42
    go_wp2_with fail
    go_ret
    exact ⟨rfl, HB3.out _ _ _⟩
  have d1 := eq_f h1
  by_cases h6 : n.op = 6
  · have d6 := eq_t h6
    have hl : n.len = 2 := (own_two h hmem h6).1
    have ha0 : 0 ≤ n.a0 ∧ n.a0 < (k : Int) := harg 0 (by omega)
    have ha1 : 0 ≤ n.a1 ∧ n.a1 < (k : Int) := harg 1 (by omega)
    obtain ⟨m, hm⟩ : ∃ m : Nat, n.a0 = (m : Int) := ⟨n.a0.toNat, by omega⟩
    obtain ⟨m', hm'⟩ : ∃ m' : Nat, n.a1 = (m' : Int) := ⟨n.a1.toNat, by omega⟩
    have hml : m < l.length := by omega
    obtain ⟨g2, o2, e2, _, -, -, -, -, -, p5, -, -⟩ := hA.node (nodA_get hml)
    cases e2
    obtain ⟨z1, z2⟩ := h.eq n hmem h6
    rw [hm] at z1 z2 q2
    rw [hm'] at z2 q3
    have f1 := ne_t z1
    unfold srt at f1 z1 z2
    have hmi : (m : Int) < (l.length : Int) := by omega
    have hm0 : (0 : Int) ≤ (m : Int) := by omega
    by_cases hz : (nodA l m).sort = 0
    · have f2 := eq_t hz
      have f3 := eq_f z1
      clear hA hn hg hmem g4 g5 g8 g9 h1 h6 harg ha0 ha1 hm hm' hl hz z1 z2
      go_enter Tryz.func42, Tryz.ntmps42
      go_wp2_with fail
      go_ret
      exact ⟨rfl, HB3.out _ _ _⟩
    · have f2 := eq_f hz
      have hne : ¬ (m : Int) = (m' : Int) := by have := z2 hz; omega
      have f3 := ne_t hne
      clear hA hn hg hmem g4 g5 g8 g9 h1 h6 harg ha0 ha1 hm hm' hl hz z1 z2 hne
      go_enter Tryz.func42, Tryz.ntmps42
      go_wp2_with fail
      go_ret
      exact ⟨rfl, HB3.out _ _ _⟩
  have d6 := eq_f h6
  by_cases h12 : n.op = 12
  rotate_left
  · have d12 := eq_f h12
    clear hA hn hg hmem g4 g5 g8 g9 h1 h6 h12 harg
    go_enter Tryz.func42, Tryz.ntmps42
    go_wp2_with fail
    go_ret
    exact ⟨rfl, HB3.out _ _ _⟩
  have d12 := eq_t h12
  have hpl := args_12 (h.st hg) h12
  obtain ⟨b1, b2, b3⟩ := (h.qo n hmem).2 h12
  obtain ⟨-, s1, s2⟩ := (h.ws n hmem).s8 (by omega)
  obtain ⟨i, x, hi, hx, x1, x2, x3⟩ := base_ok h.may hpl.1.1 (by have := hpl.1.2; omega) b2 s1
  obtain ⟨j, y, hj, hy, y1, y2, y3⟩ := base_ok h.may hpl.2.1 (by have := hpl.2.2; omega) b3 s2
  rw [hi, hj] at b1
  have f1 := ne_t b1
  rw [hi] at q2
  rw [hj] at q3
  obtain ⟨W3, hW3⟩ : ∃ W3, W3 = ((w.alloc (.cells #[.slice (some ⟨g, o, none⟩) l.length c] 33)).alloc (.cells #[.int .i8 n.op, .int .i8 n.len, .int .i64 i, .int .i64 j, .int .i64 n.a2, .int .i64 n.sort, .int .i64 n.fn, .int .i64 n.num] 47)).alloc (.cells #[.int .i64 i, .int .i64 j, .int .i64 n.a2] 45) := ⟨_, rfl⟩
  have hbw : Below w.heap.size w W3 := by rw [hW3]; exact HB3.out _ _ _
  have t3 : W3.heap[w.heap.size]? = some (.cells #[.slice (some ⟨g, o, none⟩) l.length c] 33 (0, 0)) := by
    rw [hW3]
    exact (Below.heap_alloc _ _ _ (by simp; omega)).trans (mid_new' w _ _)
  have a3 : W3.heap[w.heap.size + 1 + 1]? = some (.cells #[.int .i64 i, .int .i64 j, .int .i64 n.a2] 45 (0, 0)) := by
    have := heap_alloc_new ((w.alloc (.cells #[.slice (some ⟨g, o, none⟩) l.length c] 33)).alloc (.cells #[.int .i8 n.op, .int .i8 n.len, .int .i64 i, .int .i64 j, .int .i64 n.a2, .int .i64 n.sort, .int .i64 n.fn, .int .i64 n.num] 47)) (.cells #[.int .i64 i, .int .i64 j, .int .i64 n.a2] 45)
    rw [World.size_alloc, World.size_alloc] at this
    rw [hW3]; exact this
  have HF : Hid (∀ V, Below W3.heap.size W3 V → (V.cell? ⟨w.heap.size, 0, none⟩ = some (.slice (some ⟨g, o, none⟩) l.length c) ∧ w.heap.size < V.heap.size) ∧ (V.cell? ⟨w.heap.size + 1 + 1, 0, none⟩ = some (.int .i64 i) ∧ V.cell? ⟨w.heap.size + 1 + 1, 1, none⟩ = some (.int .i64 j) ∧ w.heap.size + 1 + 1 < V.heap.size) ∧ Below w.heap.size w V) := fun V hV => by
    have e1 := (hV.block _ (Array.getElem?_eq_some_iff.1 t3).1).trans t3
    have e2 := (hV.block _ (Array.getElem?_eq_some_iff.1 a3).1).trans a3
    exact ⟨⟨(cell_of_row _ _ 0 _ _ _ e1).trans rfl, (Array.getElem?_eq_some_iff.1 e1).1⟩, ⟨(cell_of_row _ _ 0 _ _ _ e2).trans rfl, (cell_of_row _ _ 1 _ _ _ e2).trans rfl, (Array.getElem?_eq_some_iff.1 e2).1⟩, hbw.trans (hV.mono hbw.size)⟩
  have HO1 : Hid (∀ V, Below W3.heap.size W3 V → Calls Tryz.prog 76 #[.agg #[.slice (some ⟨g, o, none⟩) l.length c], .int .i64 i] V fun e w' => e = .returned (.tuple #[.int .i64 i, .int .i64 0, .int .i64 0]) ∧ Below V.heap.size V w') := fun V hV => ROfB_any l _ c i x V (hA.below (HF.out V hV).2.2) (by omega) h.may hx x1 x2 x3
  have HO2 : Hid (∀ V, Below W3.heap.size W3 V → Calls Tryz.prog 76 #[.agg #[.slice (some ⟨g, o, none⟩) l.length c], .int .i64 j] V fun e w' => e = .returned (.tuple #[.int .i64 j, .int .i64 0, .int .i64 0]) ∧ Below V.heap.size V w') := fun V hV => ROfB_any l _ c j y V (hA.below (HF.out V hV).2.2) (by omega) h.may hy y1 y2 y3
  clear hA hn hg hmem g4 g5 g8 g9 h1 h6 h12 harg hpl b1 b2 b3 s1 s2 hi hj hx hy x1 x2 x3 y1 y2 y3 hbw t3 a3 HB3
  go_enter Tryz.func42, Tryz.ntmps42
  go_wp2_with fail
  rw [← hW3]
  clear hW3 q0 q1 q2 q3 q4 q5 q6 q7 hgz gz1 gz2 gz3 ne0 ne1 ne2
  refine (HO1.out _ (Below.refl _ _)).mono ?_
  rintro e w1 ⟨rfl, hb1⟩
  have HB1 := Lib.hid hb1
  obtain ⟨⟨t0, tz⟩, ⟨v0, v1, vz⟩, -⟩ := HF.out w1 hb1
  clear hb1
  go_wp2_with fail
  refine (HO2.out _ HB1.out).mono ?_
  rintro e w2 ⟨rfl, hb2⟩
  have HB2 : Hid (Below W3.heap.size W3 w2) := HB1.out.trans (hb2.mono HB1.out.size)
  clear hb2 t0 tz v0 v1 vz
  obtain ⟨⟨t0, tz⟩, ⟨v0, v1, vz⟩, hbe⟩ := HF.out w2 HB2.out
  have HBE := Lib.hid hbe
  clear hbe
  go_wp2_with fail
  go_ret
  exact ⟨rfl, HBE.out⟩
set_option maxRecDepth 100000 in
set_option maxHeartbeats 4000000 in
theorem RIs_any (l : List NodeA) (h : Cl l) (a : Option Addr) (c : Nat) (w : World) (hA : TabR w l a c) :
    Calls Tryz.prog 13 #[.agg #[.slice a l.length c]] w fun e w' => e = .returned (.bool true) ∧ Below w.heap.size w w' := by
  have hll := h.len
  have hcap := hA.le
  obtain ⟨W0, hW0⟩ : ∃ W0, W0 = w.alloc (.cells #[.slice a l.length c] 33) := ⟨_, rfl⟩
  obtain ⟨hB0, hXX⟩ := tab_box hW0
  have HXX := Lib.hid hXX
  have HB0 := Lib.hid hB0
  have HT : Hid (∀ V, Below W0.heap.size W0 V → TabR V l a c) := fun V hV => hA.below (hB0.trans (hV.mono hB0.size))
  have HC : Hid (∀ V, Below W0.heap.size W0 V → Calls Tryz.prog 29 #[.agg #[.slice a l.length c]] V fun e w' => e = .returned (.int .i64 0) ∧ Below V.heap.size V w') := fun V hV => RCheck_any l a c 0 V (HT.out V hV) (by omega) (by rw [h.may]; rfl)
  have HO : Hid (∀ V, Below W0.heap.size W0 V → Calls Tryz.prog 41 #[.agg #[.slice a l.length c]] V fun e w' => e = .returned (.bool true) ∧ Below V.heap.size V w') := fun V hV => ROrdered_any l a c true V (HT.out V hV) (by omega) (ord_of_QO (s := ⟨l, 0⟩) h.mki h.qo)
  have HK : Hid (∀ V k, k < l.length → Below W0.heap.size W0 V → Calls Tryz.prog 42 #[.agg #[.slice a l.length c], .int .i64 k] V fun e w' => e = .returned (.bool true) ∧ Below V.heap.size V w') := fun V k hk hV => RKinds_any l h a c k V (HT.out V hV) hk
  obtain ⟨x0, xz⟩ := hXX _ (Below.refl _ _)
  clear hA hB0 hXX h
  go_enter Tryz.func13, Tryz.ntmps13
  go_wp2_with fail
  rw [← hW0]
  clear hW0
  refine (HC.out _ (Below.refl _ _)).mono ?_
  rintro e w1 ⟨rfl, hb1⟩
  have HB1 := Lib.hid hb1
  clear x0 xz
  obtain ⟨x0, xz⟩ := HXX.out w1 hb1
  clear hb1
  go_wp2_with fail
  refine (HO.out _ HB1.out).mono ?_
  rintro e w2 ⟨rfl, hb2⟩
  have HB2 : Hid (Below W0.heap.size W0 w2) := HB1.out.trans (hb2.mono HB1.out.size)
  clear hb2 x0 xz
  go_wp2_with fail
  go_loopw [3] (fun i wr => ∃ k : Nat, k ≤ l.length ∧ i = .int .i64 k ∧ Hid (Below W0.heap.size W0 wr)) (fun i _ => l.length - (intOf i).toNat)
  case atStart => exact ⟨0, Nat.zero_le _, rfl, HB2⟩
  case round =>
    obtain ⟨k, hkl, rfl, HR⟩ := hrel
    obtain ⟨x0, xz⟩ := HXX.out wr HR.out
    by_cases hlt : k < l.length
    · have hki : (k : Int) < (l.length : Int) := by omega
      go_wp2_with fail
      refine (HK.out _ k hlt HR.out).mono ?_
      rintro e w6 ⟨rfl, hb6⟩
      have HB6 : Hid (Below W0.heap.size W0 w6) := HR.out.trans (hb6.mono HR.out.size)
      clear hb6
      go_wp2_with fail
      go_roundw
      case rel => exact ⟨k + 1, by omega, by go_num, HB6⟩
      case measure => simp [intOf]; omega
    · obtain rfl : k = l.length := by omega
      have HBE : Hid (Below w.heap.size w wr) := ball HB0.out HR.out
      go_wp2_with fail
      go_ret
      exact ⟨rfl, HBE.out⟩
end Go.Proofs.YtfbjgadgfjnamaaGreatDoor.Tm
