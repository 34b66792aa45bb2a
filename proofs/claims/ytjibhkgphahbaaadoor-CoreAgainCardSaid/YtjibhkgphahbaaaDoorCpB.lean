/- The document's answer of a base: the node itself, no offset. -/
import Derived.Test.YtjibhkgphahbaaaDoorCoQ
import Derived.Test.YtjibhkgphahbaaaDoorCpA
import Derived.Test.YtjibhkgphahbaaaDoorOfJ
namespace Go.Proofs.YtjibhkgphahbaaaDoor
open Go.RowKit
set_option linter.unusedVariables false
theorem RAdd_any (a b : Int) (w : World) :
    Calls Tryd.prog 24 #[.int .i64 a, .int .i64 b] w fun e w' => e = .returned (.tuple #[.int .i64 (addV a b), .int .i64 (addE a b)]) ∧ w = w' := by
  cases hok : addOk a b with
  | true =>
    obtain ⟨⟨p1, p2⟩, ⟨p3, p4⟩, p5, p6⟩ := addOk_true.1 hok
    have m1 := Lib.hid (mayB_true.2 ⟨p1, p2⟩)
    have m2 := Lib.hid ((mayB_true (n := b)).2 ⟨by omega, by omega⟩)
    have m3 := Lib.hid ((mayB_true (n := a + b)).2 ⟨by omega, by omega⟩)
    have HK := Lib.hid hok; clear hok
    go_enter Tryd.func24, Tryd.ntmps24
    go_wp2_with (go_at_call 40; refine (RMay_any _ _).mono ?_; rintro e w' ⟨rfl, rfl⟩)
    · have h : (!mayB (a + b)) = true := by assumption
      rw [m3.out] at h; cases h
    · go_ret2
      exact ⟨ret_two (val_int (by simp [addV, HK.out])) (val_int (by simp [addE, HK.out])), rfl⟩
  | false =>
    have hno := Lib.hid (addOk_no hok)
    have HK := Lib.hid hok; clear hok
    go_enter Tryd.func24, Tryd.ntmps24
    go_wp2_with (go_at_call 40; refine (RMay_any _ _).mono ?_; rintro e w' ⟨rfl, rfl⟩)
    all_goals first
      | (exfalso; have := hno.out; simp_all; done)
      | (go_ret2; exact ⟨ret_two (val_int (by simp [addV, HK.out])) (val_int (by simp [addE, HK.out])), rfl⟩)
end Go.Proofs.YtjibhkgphahbaaaDoor
namespace Go.Proofs.YtjibhkgphahbaaaDoor.Tm
open Go.RowKit
set_option linter.unusedVariables false
theorem RAdd_00 (w : World) : Calls Tryd.prog 24 #[.int .i64 0, .int .i64 0] w fun e w' => e = .returned (.tuple #[.int .i64 0, .int .i64 0]) ∧ w = w' := RAdd_any 0 0 w
theorem ord_of_QO {s : MkS} (h : MkI s) (hQ : QO s.l) : ordB s.l = true := by
  unfold ordB
  rw [h.may, Bool.true_and]
  have : s.l.any (badN s.l) = false := by
    rw [List.any_eq_false]
    intro n hn hb
    by_cases h11 : n.op = 11
    · obtain ⟨h1, h2, h3⟩ := (hQ n hn).1 h11
      rw [bad_not h1 h2 h3] at hb; exact absurd hb (by decide)
    · rw [bad_no h11] at hb; exact absurd hb (by decide)
  rw [this]; rfl
set_option maxRecDepth 100000 in
set_option maxHeartbeats 4000000 in
theorem ROfB_any (l : List NodeA) (a : Option Addr) (c i : Nat) (n : NodeA) (w : World) (hA : TabR w l a c) (hl : l.length ≤ 3000) (hm : mayT l = true) (hn : l[i]? = some n) (hs : n.sort = 1) (h11 : ¬ n.op = 11) (h10 : n.op = 10 → i = 1 ∧ n.num = 0) :
    Calls Tryd.prog 11 #[.agg #[.slice a l.length c], .int .i64 i] w fun e w' => e = .returned (.tuple #[.int .i64 i, .int .i64 0, .int .i64 0]) ∧ Below w.heap.size w w' := by
  obtain ⟨W0, hW0⟩ : ∃ W0, W0 = w.alloc (.cells #[.slice a l.length c] 24) := ⟨_, rfl⟩
  have HB0 : Hid (Below w.heap.size w W0) := by show Below _ _ _; rw [hW0]; exact (Below.refl _ w).alloc (Nat.le_refl _) _
  have HXR : Hid (∀ V, Below W0.heap.size W0 V → V.heap[w.heap.size]? = some (.cells #[.slice a l.length c] 24 (0, 0))) := fun V hV => by
    have hx0 : W0.heap[w.heap.size]? = some (.cells #[.slice a l.length c] 24 (0, 0)) := by rw [hW0]; exact heap_alloc_new w _
    exact (hV.block _ (Array.getElem?_eq_some_iff.1 hx0).1).trans hx0
  have HC : Hid (Calls Tryd.prog 10 #[.agg #[.slice a l.length c]] W0 fun e w' => e = .returned (.int .i64 0) ∧ Below W0.heap.size W0 w') := RCheck_any l a c 0 W0 (hA.below HB0.out) hl (by rw [hm]; rfl)
  have HA := Lib.hid hA
  have HN := Lib.hid hn
  have hcap := hA.le
  have hil := (List.getElem?_eq_some_iff.1 hn).1
  have hii : (i : Int) < (l.length : Int) := by omega
  have hi0 : (0 : Int) ≤ (i : Int) := by omega
  have hmx : l.length ≤ 9223372036854775807 := by omega
  have e1 := ne_f hs
  have e11 := eq_f h11
  have HS := Lib.hid hs
  clear hA hm hn hs
  obtain ⟨x0, _, xz⟩ := box3' (HXR.out W0 (Below.refl _ _))
  clear x0 xz
  have HR : Hid (∀ V, Below W0.heap.size W0 V → V.cell? ⟨w.heap.size, 0, none⟩ = some (.slice a l.length c) ∧ V.frozen? ⟨w.heap.size, 0, none⟩ = false ∧ w.heap.size < V.heap.size) := fun V hV => box3' (HXR.out V hV)
  have HND : Hid (∀ V, Below W0.heap.size W0 V → ∃ g o : Nat, a = some ⟨g, o, none⟩ ∧ g < V.heap.size ∧ V.cell? ⟨g, o + i * 8, none⟩ = some (.int .i8 n.op) ∧ V.cell? ⟨g, o + i * 8 + 5, none⟩ = some (.int .i64 n.sort) ∧ V.cell? ⟨g, o + i * 8 + 7, none⟩ = some (.int .i64 n.num)) := fun V hV => by
    obtain ⟨g, o, h, hg, q0, q1, q2, q3, q4, q5, q6, q7⟩ := (HA.out.below (HB0.out.trans (hV.mono HB0.out.size))).node HN.out
    exact ⟨g, o, h, hg, q0, q5, q7⟩
  obtain ⟨g, o, rfl, _⟩ := HND.out W0 (Below.refl _ _)
  have HND2 : Hid (∀ V, Below W0.heap.size W0 V → g < V.heap.size ∧ V.cell? ⟨g, o + i * 8, none⟩ = some (.int .i8 n.op) ∧ V.cell? ⟨g, o + i * 8 + 5, none⟩ = some (.int .i64 n.sort) ∧ V.cell? ⟨g, o + i * 8 + 7, none⟩ = some (.int .i64 n.num)) := fun V hV => by
    obtain ⟨g', o', h, r⟩ := HND.out V hV
    cases h; exact r
  clear HND
  by_cases ht : n.op = 10
  · obtain ⟨rfl, hnum⟩ := h10 ht
    have e10 := eq_t ht
    rw [hnum] at HND2
    clear hnum ht h11 h10
    go_enter Tryd.func11, Tryd.ntmps11
    go_wp2_with (first
      | (go_at_call 10; rw [← hW0]; clear hW0; refine HC.out.mono ?_; rintro e w1 ⟨rfl, hb1⟩; have HB1 := Lib.hid hb1; clear hb1; obtain ⟨x0, _, xz⟩ := HR.out w1 HB1.out; obtain ⟨gz, q0, q5, q7⟩ := HND2.out w1 HB1.out)
      | fail)
    go_loopw [1, 7] (fun v i' wr => v = .int .i64 ((1 : Nat) : Int) ∧ i' = .int .i64 0 ∧ Hid (Below W0.heap.size W0 wr)) (fun _ _ _ => 0)
    case atStart => exact ⟨rfl, rfl, HB1⟩
    case round =>
      obtain ⟨rfl, rfl, HW⟩ := hrel
      clear x0 xz gz q0 q5 q7
      obtain ⟨x0, _, xz⟩ := HR.out wr HW.out
      obtain ⟨gz, q0, q5, q7⟩ := HND2.out wr HW.out
      have HWw : Hid (Below w.heap.size w wr) := HB0.out.trans (HW.out.mono HB0.out.size)
      go_wp2_with (first | (go_at_call 24; refine (RAdd_00 _).mono ?_; rintro e w2 ⟨rfl, rfl⟩) | fail)
      refine bodyPost_ret (v := .tuple #[.int .i64 ((1 : Nat) : Int), .int .i64 0, .int .i64 0]) (by simp [results, Tryd.results11, go_sem]) rfl ⟨rfl, HWw.out⟩
  · have e10 := eq_f ht
    clear ht h11 h10
    go_enter Tryd.func11, Tryd.ntmps11
    go_wp2_with (first
      | (go_at_call 10; rw [← hW0]; clear hW0; refine HC.out.mono ?_; rintro e w1 ⟨rfl, hb1⟩; have HB1 := Lib.hid hb1; clear hb1; obtain ⟨x0, _, xz⟩ := HR.out w1 HB1.out; obtain ⟨gz, q0, q5, q7⟩ := HND2.out w1 HB1.out)
      | fail)
    go_loopw [1, 7] (fun v i' wr => v = .int .i64 i ∧ i' = .int .i64 0 ∧ Hid (Below W0.heap.size W0 wr)) (fun _ _ _ => 0)
    case atStart => exact ⟨rfl, rfl, HB1⟩
    case round =>
      obtain ⟨rfl, rfl, HW⟩ := hrel
      clear x0 xz gz q0 q5 q7
      obtain ⟨x0, _, xz⟩ := HR.out wr HW.out
      obtain ⟨gz, q0, q5, q7⟩ := HND2.out wr HW.out
      have HWw : Hid (Below w.heap.size w wr) := HB0.out.trans (HW.out.mono HB0.out.size)
      go_wp2
      refine bodyPost_ret (v := .tuple #[.int .i64 i, .int .i64 0, .int .i64 0]) (by simp [results, Tryd.results11, go_sem]) rfl ⟨rfl, HWw.out⟩
end Go.Proofs.YtjibhkgphahbaaaDoor.Tm
