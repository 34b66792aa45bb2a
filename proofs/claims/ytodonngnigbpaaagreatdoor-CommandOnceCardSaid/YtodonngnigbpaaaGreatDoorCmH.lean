/- Package command's list, whatever its kind. -/
import Derived.Test.YtodonngnigbpaaaGreatDoorCmG
import Derived.Test.YtodonngnigbpaaaGreatDoorCmG10
import Derived.Test.YtodonngnigbpaaaGreatDoorCmG6
namespace Go.Proofs.YtodonngnigbpaaaGreatDoor
open Go.RowKit
set_option linter.unusedVariables false
set_option maxRecDepth 100000 in
set_option maxHeartbeats 4000000 in
theorem list_no (x : CmdV) (w : World) (h0 : ¬ (0 ≤ x.c.kind ∧ x.c.kind ≤ 12)) :
    Calls Tryz.prog 18 #[.agg #[.int .i8 x.c.kind, .string (bytesL x.c.name), .int .i64 x.c.n, .slice x.la x.c.l.length x.lc, .slice x.aa x.c.args.length x.ac, .slice x.pa x.c.params.length x.pc, .string (bytesL x.c.res), .slice x.ta x.c.terms.length x.tc]] w (SxPost NoH w (.node 0 [] [])) := by
  obtain ⟨W0, hW0⟩ : ∃ W0, W0 = (w.alloc (.cells #[.int .i8 x.c.kind, .string (bytesL x.c.name), .int .i64 x.c.n, .slice x.la x.c.l.length x.lc, .slice x.aa x.c.args.length x.ac, .slice x.pa x.c.params.length x.pc, .string (bytesL x.c.res), .slice x.ta x.c.terms.length x.tc] 28)).alloc zSx := ⟨_, rfl⟩
  obtain ⟨hB0, hX0, hY0, hsz⟩ := boxed hW0
  have HB0 := Lib.hid hB0
  have HY0 := Lib.hid hY0
  have HL : Hid (W0 = (w.alloc (.cells #[.int .i8 x.c.kind, .string (bytesL x.c.name), .int .i64 x.c.n, .slice x.la x.c.l.length x.lc, .slice x.aa x.c.args.length x.ac, .slice x.pa x.c.params.length x.pc, .string (bytesL x.c.res), .slice x.ta x.c.terms.length x.tc] 28)).alloc (.cells #[.int .i8 0, .string ⟨#[]⟩, .slice none 0 0] 35)) := hW0
  have e0 := eq_false (x := x.c.kind) (y := 0) (by omega)
  have e1 := eq_false (x := x.c.kind) (y := 1) (by omega)
  have e2 := eq_false (x := x.c.kind) (y := 2) (by omega)
  have e3 := eq_false (x := x.c.kind) (y := 3) (by omega)
  have e4 := eq_false (x := x.c.kind) (y := 4) (by omega)
  have e5 := eq_false (x := x.c.kind) (y := 5) (by omega)
  have e6 := eq_false (x := x.c.kind) (y := 6) (by omega)
  have e7 := eq_false (x := x.c.kind) (y := 7) (by omega)
  have e8 := eq_false (x := x.c.kind) (y := 8) (by omega)
  have e9 := eq_false (x := x.c.kind) (y := 9) (by omega)
  have e10 := eq_false (x := x.c.kind) (y := 10) (by omega)
  have e11 := eq_false (x := x.c.kind) (y := 11) (by omega)
  have e12 := eq_false (x := x.c.kind) (y := 12) (by omega)
  clear hW0 hB0 hX0 hY0 h0
  go_enter Tryz.func18, Tryz.ntmps18
  go_wp2
  have hx : ((w.alloc (.cells #[.int .i8 x.c.kind, .string (bytesL x.c.name), .int .i64 x.c.n, .slice x.la x.c.l.length x.lc, .slice x.aa x.c.args.length x.ac, .slice x.pa x.c.params.length x.pc, .string (bytesL x.c.res), .slice x.ta x.c.terms.length x.tc] 28)).alloc (.cells #[.int .i8 0, .string ⟨#[]⟩, .slice none 0 0] 35)).heap[w.heap.size + 1]? = some zSx := by rw [← HL.out]; exact HY0.out
  refine bodyPost_ret (results_cell_row rfl _ _ (w.heap.size + 1) _ _ _ _ rfl (hx) Tryz.underlying35 rfl sexSize3) rfl ?_
  exact ⟨⟨.node 0 [] [], none, 0⟩, rfl, rfl, sx_leaf (by simp), by rw [← HL.out]; exact HB0.out⟩
theorem list_any (x : CmdV) (w : World) (hG : GH w) (hr : CmdS w x) (hF : Fair x.c) :
    Calls Tryz.prog 18 #[.agg #[.int .i8 x.c.kind, .string (bytesL x.c.name), .int .i64 x.c.n, .slice x.la x.c.l.length x.lc, .slice x.aa x.c.args.length x.ac, .slice x.pa x.c.params.length x.pc, .string (bytesL x.c.res), .slice x.ta x.c.terms.length x.tc]] w (SxPost NoH w (listT x.c)) := by
  by_cases h0 : 0 ≤ x.c.kind ∧ x.c.kind ≤ 12
  · have hor : x.c.kind = 0 ∨ x.c.kind = 1 ∨ x.c.kind = 2 ∨ x.c.kind = 3 ∨ x.c.kind = 4 ∨ x.c.kind = 5 ∨ x.c.kind = 6 ∨ x.c.kind = 7 ∨ x.c.kind = 8 ∨ x.c.kind = 9 ∨ x.c.kind = 10 ∨ x.c.kind = 11 ∨ x.c.kind = 12 := by omega
    unfold listT
    rw [if_pos h0]
    rcases hor with h | h | h | h | h | h | h | h | h | h | h | h | h
    · rw [show x.c.kind.toNat = 0 by omega]; exact list_0 x w hG hr hF h
    · rw [show x.c.kind.toNat = 1 by omega]; exact list_1 x w hG hr hF h
    · rw [show x.c.kind.toNat = 2 by omega]; exact list_2 x w hG hr hF h
    · rw [show x.c.kind.toNat = 3 by omega]; exact list_3 x w hG hr hF h
    · rw [show x.c.kind.toNat = 4 by omega]; exact list_4 x w hG hr hF h
    · rw [show x.c.kind.toNat = 5 by omega]; exact list_5 x w hG hr hF h
    · rw [show x.c.kind.toNat = 6 by omega]; exact list_6 x w hG hr hF h
    · rw [show x.c.kind.toNat = 7 by omega]; exact list_7 x w hG hr hF h
    · rw [show x.c.kind.toNat = 8 by omega]; exact list_8 x w hG hr hF h
    · rw [show x.c.kind.toNat = 9 by omega]; exact list_9 x w hG hr hF h
    · rw [show x.c.kind.toNat = 10 by omega]; exact list_10 x w hG hr hF h
    · rw [show x.c.kind.toNat = 11 by omega]; exact list_11 x w hG hr hF h
    · rw [show x.c.kind.toNat = 12 by omega]; exact list_12 x w hG hr hF h
  · unfold listT
    rw [if_neg h0]
    exact list_no x w h0
end Go.Proofs.YtodonngnigbpaaaGreatDoor
