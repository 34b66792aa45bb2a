/- What the listed variables of packages lex and sexpr hold, out of the row's condition. -/
import Derived.Test.YthbgigjjmojgfaaDoorRows
import Derived.Test.YthbgigjjmojgfaaDoorLexSkip
import Derived.Test.YthbgigjjmojgfaaDoorSexTk
import Derived.ProofKit
import Derived.LaidMore
import Derived.OpenShut
import Derived.Stop.Joined
namespace Go.Proofs.YthbgigjjmojgfaaDoor
open Go.ChangeShapes Go.WideShapes Go.ChangeAt Go.RowKit
def laidL : List (String × DataW Unit) := [("gantry/lex.white", Rows.laid_gantry_lex_white), ("gantry/lex.digits", Rows.laid_gantry_lex_digits), ("gantry/lex.signs", Rows.laid_gantry_lex_signs), ("gantry/lex.inBars", Rows.laid_gantry_lex_inBars), ("gantry/sexpr.kinds", Rows.laid_gantry_sexpr_kinds)]
def doorSteps : Nat := 29
set_option maxRecDepth 100000 in
theorem door_met (os : Os) (args : Array Value) : laidMetH Tryd.prog laidL ((World.doorLaid Tryd.prog doorSteps os).forCall (fun _ _ => 0) ⟨#[], args, []⟩).memory :=
  laidMetH_of_parts3 (fuel := 8) (laidMet_of_run' 8 (by kernel_rfl) (by kernel_rfl)) (by kernel_rfl) (by kernel_rfl)
theorem gWhite : Tryd.prog.globalNamed "gantry/lex.white" = some 1 := by kernel_rfl
theorem gDigits : Tryd.prog.globalNamed "gantry/lex.digits" = some 3 := by kernel_rfl
theorem gSigns : Tryd.prog.globalNamed "gantry/lex.signs" = some 4 := by kernel_rfl
theorem gBars : Tryd.prog.globalNamed "gantry/lex.inBars" = some 2 := by kernel_rfl
theorem gKinds : Tryd.prog.globalNamed "gantry/sexpr.kinds" = some 0 := by kernel_rfl
theorem tKinds : (Tryd.prog.globals[0]?).map (·.type) = some 66 := by kernel_rfl
theorem cFive : Tryd.prog.cellsOf 66 = 5 := by kernel_rfl
theorem cByte : Tryd.prog.cellsOf 23 = 1 := by kernel_rfl
theorem tWhite : (Tryd.prog.globals[1]?).map (·.type) = some 71 := by kernel_rfl
theorem tDigits : (Tryd.prog.globals[3]?).map (·.type) = some 71 := by kernel_rfl
theorem tSigns : (Tryd.prog.globals[4]?).map (·.type) = some 71 := by kernel_rfl
theorem tBars : (Tryd.prog.globals[2]?).map (·.type) = some 71 := by kernel_rfl
theorem cSet : Tryd.prog.cellsOf 71 = 4 := by kernel_rfl
theorem cWord : Tryd.prog.cellsOf 69 = 1 := by kernel_rfl
theorem word_of_trod {H : Type} {enc : TypeId × Value → H} {P : Program} {w : World} {base : Nat} {sp : Nat → Bool} {held : Bool} {fuel : Nat} {t : TypeId} {k : IntKind} {c : Value} {y : DataW H × List MemPlace}
    (ht : P.underlying t = some (.int k)) (h : DataW.trod enc P w base sp held fuel t [c] = some y) : ∃ n, c = .int k n ∧ y = (.lit (.int k n), []) := by
  cases fuel with
  | zero => simp [DataW.trod] at h
  | succ fuel =>
    cases c <;> simp [DataW.trod, ht] at h
    rename_i k' n
    obtain ⟨⟨rfl, _⟩, rfl⟩ := h
    exact ⟨n, rfl, rfl⟩
theorem set_of_trod {H : Type} {enc : TypeId × Value → H} {w : World} {base : Nat} {sp : Nat → Bool} {held : Bool} {fuel : Nat} {cs : Array Value} {a0 a1 a2 a3 : Int} {p : List MemPlace}
    (hd : DataW.trod enc Tryd.prog w base sp held fuel 71 cs.toList = some (.agg [.lit (.int .u64 a0), .lit (.int .u64 a1), .lit (.int .u64 a2), .lit (.int .u64 a3)], p)) : cs = #[.int .u64 a0, .int .u64 a1, .int .u64 a2, .int .u64 a3] := by
  obtain ⟨l⟩ := cs
  cases fuel with
  | zero => simp [DataW.trod] at hd
  | succ fuel =>
    simp only [DataW.trod, Tryd.underlying71, cSet, cWord] at hd
    split at hd
    · rename_i hl
      obtain ⟨c0, c1, c2, c3, rfl⟩ : ∃ c0 c1 c2 c3, l = [c0, c1, c2, c3] := by
        match l, hl with
        | [a, b, c, d], _ => exact ⟨a, b, c, d, rfl⟩
      have e : List.range 4 = [0, 1, 2, 3] := rfl
      rw [e] at hd
      simp only [Option.map_eq_some_iff, List.mapM_cons, List.mapM_nil, Option.bind_eq_bind, Option.bind_eq_some_iff, Option.pure_def, Option.some.injEq] at hd
      obtain ⟨xs, ⟨y0, h0, _, ⟨y1, h1, _, ⟨y2, h2, _, ⟨y3, h3, _, rfl, rfl⟩, rfl⟩, rfl⟩, rfl⟩, hx⟩ := hd
      obtain ⟨n0, rfl, rfl⟩ := word_of_trod Tryd.underlying69 h0
      obtain ⟨n1, rfl, rfl⟩ := word_of_trod Tryd.underlying69 h1
      obtain ⟨n2, rfl, rfl⟩ := word_of_trod Tryd.underlying69 h2
      obtain ⟨n3, rfl, rfl⟩ := word_of_trod Tryd.underlying69 h3
      simp at hx
      obtain ⟨⟨rfl, rfl, rfl, rfl⟩, _⟩ := hx
      rfl
    · cases hd
theorem five_of_trod {H : Type} {enc : TypeId × Value → H} {w : World} {base : Nat} {sp : Nat → Bool} {held : Bool} {fuel : Nat} {cs : Array Value} {a0 a1 a2 a3 a4 : Int} {p : List MemPlace}
    (hd : DataW.trod enc Tryd.prog w base sp held fuel 66 cs.toList = some (.agg [.lit (.int .i8 a0), .lit (.int .i8 a1), .lit (.int .i8 a2), .lit (.int .i8 a3), .lit (.int .i8 a4)], p)) : cs = #[.int .i8 a0, .int .i8 a1, .int .i8 a2, .int .i8 a3, .int .i8 a4] := by
  obtain ⟨l⟩ := cs
  cases fuel with
  | zero => simp [DataW.trod] at hd
  | succ fuel =>
    simp only [DataW.trod, Tryd.underlying66, cFive, cByte] at hd
    split at hd
    · rename_i hl
      obtain ⟨c0, c1, c2, c3, c4, rfl⟩ : ∃ c0 c1 c2 c3 c4, l = [c0, c1, c2, c3, c4] := by
        match l, hl with
        | [a, b, c, d, e], _ => exact ⟨a, b, c, d, e, rfl⟩
      have e : List.range 5 = [0, 1, 2, 3, 4] := rfl
      rw [e] at hd
      simp only [Option.map_eq_some_iff, List.mapM_cons, List.mapM_nil, Option.bind_eq_bind, Option.bind_eq_some_iff, Option.pure_def, Option.some.injEq] at hd
      obtain ⟨xs, ⟨y0, h0, _, ⟨y1, h1, _, ⟨y2, h2, _, ⟨y3, h3, _, ⟨y4, h4, _, rfl, rfl⟩, rfl⟩, rfl⟩, rfl⟩, rfl⟩, hx⟩ := hd
      obtain ⟨n0, rfl, rfl⟩ := word_of_trod Tryd.underlying23 h0
      obtain ⟨n1, rfl, rfl⟩ := word_of_trod Tryd.underlying23 h1
      obtain ⟨n2, rfl, rfl⟩ := word_of_trod Tryd.underlying23 h2
      obtain ⟨n3, rfl, rfl⟩ := word_of_trod Tryd.underlying23 h3
      obtain ⟨n4, rfl, rfl⟩ := word_of_trod Tryd.underlying23 h4
      simp at hx
      obtain ⟨⟨rfl, rfl, rfl, rfl, rfl⟩, _⟩ := hx
      rfl
    · cases hd
theorem kinds_of' {W : World} {cs : Array Value} (hv : W.var? Tryd.prog "gantry/sexpr.kinds" = some cs) (hc : cs = #[.int .i8 0, .int .i8 0, .int .i8 0, .int .i8 1, .int .i8 2]) : Kinds W := by
  subst hc
  have h0 := World.var?_cell gKinds hv 0
  exact ⟨World.block_lt_of_cell? (a := ⟨_, 0, none⟩) W h0, h0, World.var?_cell gKinds hv 1, World.var?_cell gKinds hv 2, World.var?_cell gKinds hv 3, World.var?_cell gKinds hv 4⟩
/-- What packages lex and sexpr find in their variables. -/
structure Held (w : World) : Prop where
  g : Globs w
  k : Kinds w
theorem g4_of {W : World} {name : String} {g : Nat} {a0 a1 a2 a3 : Int} {cs : Array Value} (hg : Tryd.prog.globalNamed name = some g) (hv : W.var? Tryd.prog name = some cs) (hc : cs = #[.int .u64 a0, .int .u64 a1, .int .u64 a2, .int .u64 a3]) : G4 W g a0 a1 a2 a3 := by
  subst hc
  have h0 := World.var?_cell hg hv 0
  exact ⟨World.block_lt_of_cell? (a := ⟨g, 0, none⟩) W h0, h0, World.var?_cell hg hv 1, World.var?_cell hg hv 2, World.var?_cell hg hv 3⟩
theorem globs_of {W : World} (h : laidMetH Tryd.prog laidL W) : Held W := by
  rw [MakeChecks.laidMetH_plain _ _ _ (by kernel_rfl)] at h
  obtain ⟨ps, ⟨g0, t0, cs0, f0, p0, q0, hg0, ht0, hv0, hd0, ⟨g1, t1, cs1, f1, p1, q1, hg1, ht1, hv1, hd1, ⟨g2, t2, cs2, f2, p2, q2, hg2, ht2, hv2, hd2, ⟨g3, t3, cs3, f3, p3, q3, hg3, ht3, hv3, hd3, ⟨g4, t4, cs4, f4, p4, q4, hg4, ht4, hv4, hd4, _, _⟩, _⟩, _⟩, _⟩, _⟩, _, _⟩ := h
  obtain rfl := Option.some.inj (gWhite.symm.trans hg0)
  obtain rfl := Option.some.inj (gDigits.symm.trans hg1)
  obtain rfl := Option.some.inj (gSigns.symm.trans hg2)
  obtain rfl := Option.some.inj (gBars.symm.trans hg3)
  obtain rfl := Option.some.inj (tWhite.symm.trans ht0)
  obtain rfl := Option.some.inj (tDigits.symm.trans ht1)
  obtain rfl := Option.some.inj (tSigns.symm.trans ht2)
  obtain rfl := Option.some.inj (tBars.symm.trans ht3)
  obtain rfl := Option.some.inj (gKinds.symm.trans hg4)
  obtain rfl := Option.some.inj (tKinds.symm.trans ht4)
  refine ⟨?_, kinds_of' hv4 (five_of_trod hd4)⟩
  exact ⟨g4_of gWhite hv0 (set_of_trod hd0), g4_of gSigns hv2 (set_of_trod hd2), g4_of gDigits hv1 (set_of_trod hd1), g4_of gBars hv3 (set_of_trod hd3)⟩
end Go.Proofs.YthbgigjjmojgfaaDoor
