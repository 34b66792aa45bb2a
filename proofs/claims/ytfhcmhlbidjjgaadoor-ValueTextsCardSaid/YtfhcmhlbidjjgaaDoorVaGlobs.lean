/- What the listed variables of packages lex, sig and value hold, out of the row's condition. -/
import Derived.Test.YtfhcmhlbidjjgaaDoorRows
import Derived.Test.YtfhcmhlbidjjgaaDoorVaN
import Derived.ProofKit
import Derived.LaidMore
import Derived.OpenShut
import Derived.ChangeArms
import Derived.Stop.Joined
namespace Go.Proofs.YtfhcmhlbidjjgaaDoor
open Go.ChangeShapes Go.WideShapes Go.ChangeAt Go.RowKit
def laidL : List (String × DataW Unit) := [("gantry/lex.digits", Rows.laid_gantry_lex_digits), ("gantry/lex.signs", Rows.laid_gantry_lex_signs), ("gantry/lex.inBars", Rows.laid_gantry_lex_inBars), ("gantry/sig.always", Rows.laid_gantry_sig_always), ("gantry/value.truths", Rows.laid_gantry_value_truths)]
def doorSteps : Nat := 40
set_option maxRecDepth 100000 in
theorem door_met (os : Os) (args : Array Value) : laidMetH Tryd.prog laidL ((World.doorLaid Tryd.prog doorSteps os).forCall (fun _ _ => 0) ⟨#[], args, []⟩).memory :=
  laidMetH_of_parts3 (fuel := 8) (laidMet_of_run' 8 (by kernel_rfl) (by kernel_rfl)) (by kernel_rfl) (by kernel_rfl)
theorem gDigits : Tryd.prog.globalNamed "gantry/lex.digits" = some 3 := by kernel_rfl
theorem gTruths : Tryd.prog.globalNamed "gantry/value.truths" = some 0 := by kernel_rfl
theorem tDigits : (Tryd.prog.globals[3]?).map (·.type) = some 95 := by kernel_rfl
theorem tTruths : (Tryd.prog.globals[0]?).map (·.type) = some 54 := by kernel_rfl
theorem gSigns : Tryd.prog.globalNamed "gantry/lex.signs" = some 2 := by kernel_rfl
theorem gBars : Tryd.prog.globalNamed "gantry/lex.inBars" = some 4 := by kernel_rfl
theorem gAlways : Tryd.prog.globalNamed "gantry/sig.always" = some 1 := by kernel_rfl
theorem tSigns : (Tryd.prog.globals[2]?).map (·.type) = some 95 := by kernel_rfl
theorem tBars : (Tryd.prog.globals[4]?).map (·.type) = some 95 := by kernel_rfl
theorem tAlways : (Tryd.prog.globals[1]?).map (·.type) = some 54 := by kernel_rfl
theorem cSet : Tryd.prog.cellsOf 95 = 4 := by kernel_rfl
theorem cWord : Tryd.prog.cellsOf 79 = 1 := by kernel_rfl
theorem cTwo : Tryd.prog.cellsOf 54 = 2 := by kernel_rfl
theorem cOne : Tryd.prog.cellsOf 9 = 1 := by kernel_rfl
theorem word_of_trod {H : Type} {enc : TypeId × Value → H} {P : Program} {w : World} {base : Nat} {sp : Nat → Bool} {held : Bool} {fuel : Nat} {t : TypeId} {k : IntKind} {c : Value} {y : DataW H × List MemPlace}
    (ht : P.underlying t = some (.int k)) (h : DataW.trod enc P w base sp held fuel t [c] = some y) : ∃ n, c = .int k n ∧ y = (.lit (.int k n), []) := by
  cases fuel with
  | zero => simp [DataW.trod] at h
  | succ fuel =>
    cases c <;> simp [DataW.trod, ht] at h
    rename_i k' n
    obtain ⟨⟨rfl, _⟩, rfl⟩ := h
    exact ⟨n, rfl, rfl⟩
theorem set_of_trod {H : Type} {enc : TypeId × Value → H} {w : World} {base : Nat} {sp : Nat → Bool} {held : Bool} {fuel : Nat} {cs : Array Value} {a0 a1 a2 a3 : Int} {p : List MemPlace}
    (hd : DataW.trod enc Tryd.prog w base sp held fuel 95 cs.toList = some (.agg [.lit (.int .u64 a0), .lit (.int .u64 a1), .lit (.int .u64 a2), .lit (.int .u64 a3)], p)) : cs = #[.int .u64 a0, .int .u64 a1, .int .u64 a2, .int .u64 a3] := by
  obtain ⟨l⟩ := cs
  cases fuel with
  | zero => simp [DataW.trod] at hd
  | succ fuel =>
    simp only [DataW.trod, Tryd.underlying95, cSet, cWord] at hd
    split at hd
    · rename_i hl
      obtain ⟨c0, c1, c2, c3, rfl⟩ : ∃ c0 c1 c2 c3, l = [c0, c1, c2, c3] := by
        match l, hl with
        | [a, b, c, d], _ => exact ⟨a, b, c, d, rfl⟩
      have e : List.range 4 = [0, 1, 2, 3] := rfl
      rw [e] at hd
      simp only [Option.map_eq_some_iff, List.mapM_cons, List.mapM_nil, Option.bind_eq_bind, Option.bind_eq_some_iff, Option.pure_def, Option.some.injEq] at hd
      obtain ⟨xs, ⟨y0, h0, _, ⟨y1, h1, _, ⟨y2, h2, _, ⟨y3, h3, _, rfl, rfl⟩, rfl⟩, rfl⟩, rfl⟩, hx⟩ := hd
      obtain ⟨n0, rfl, rfl⟩ := word_of_trod Tryd.underlying79 h0
      obtain ⟨n1, rfl, rfl⟩ := word_of_trod Tryd.underlying79 h1
      obtain ⟨n2, rfl, rfl⟩ := word_of_trod Tryd.underlying79 h2
      obtain ⟨n3, rfl, rfl⟩ := word_of_trod Tryd.underlying79 h3
      simp at hx
      obtain ⟨⟨rfl, rfl, rfl, rfl⟩, _⟩ := hx
      rfl
    · cases hd
theorem two_of_trod {H : Type} {enc : TypeId × Value → H} {w : World} {base : Nat} {sp : Nat → Bool} {held : Bool} {fuel : Nat} {cs : Array Value} {b0 b1 : ByteArray} {p : List MemPlace}
    (hd : DataW.trod enc Tryd.prog w base sp held fuel 54 cs.toList = some (.agg [.lit (.string b0.data.toList), .lit (.string b1.data.toList)], p)) : cs = #[.string b0, .string b1] := by
  obtain ⟨l⟩ := cs
  obtain ⟨xs, m, rfl, hx, hlen, hxs, hf⟩ := DataW.trod_array Tryd.underlying54 hd
  rw [cTwo] at hlen
  obtain ⟨c0, c1, rfl⟩ : ∃ c0 c1, l = [c0, c1] := by
    clear hd hf hx
    match l, hlen with
    | [a, b], _ => exact ⟨a, b, rfl⟩
  obtain ⟨y0, y1, rfl⟩ : ∃ a b, xs = [a, b] := by
    clear hd hf hx
    match xs, hxs with
    | [a, b], _ => exact ⟨a, b, rfl⟩
  have h0 := hf 0 (by decide)
  have h1 := hf 1 (by decide)
  simp only [cOne, Nat.zero_mul, Nat.one_mul, List.drop_zero, List.take_succ_cons, List.take_zero, List.drop_succ_cons, List.getElem?_cons_zero, List.getElem?_cons_succ] at h0 h1
  obtain ⟨s0, e0, rfl, _⟩ := DataW.trod_string Tryd.underlying9 h0
  obtain ⟨s1, e1, rfl, _⟩ := DataW.trod_string Tryd.underlying9 h1
  simp only [List.cons.injEq, and_true] at e0 e1
  subst e0 e1
  simp only [List.map_cons, List.map_nil, Prod.mk.injEq, DataW.agg.injEq, List.cons.injEq, DataW.lit.injEq, Lit.string.injEq, and_true] at hx
  obtain ⟨⟨q0, q1⟩, _⟩ := hx
  rw [ByteArray.ext (Array.toList_inj.1 q0), ByteArray.ext (Array.toList_inj.1 q1)]
theorem g4_of {W : World} {name : String} {g : Nat} {a0 a1 a2 a3 : Int} {cs : Array Value} (hg : Tryd.prog.globalNamed name = some g) (hv : W.var? Tryd.prog name = some cs) (hc : cs = #[.int .u64 a0, .int .u64 a1, .int .u64 a2, .int .u64 a3]) : G4 W g a0 a1 a2 a3 := by
  subst hc
  have h0 := World.var?_cell hg hv 0
  exact ⟨World.block_lt_of_cell? (a := ⟨g, 0, none⟩) W h0, h0, World.var?_cell hg hv 1, World.var?_cell hg hv 2, World.var?_cell hg hv 3⟩
theorem globs_of {W : World} (h : laidMetH Tryd.prog laidL W) : GV W := by
  rw [MakeChecks.laidMetH_plain _ _ _ (by kernel_rfl)] at h
  obtain ⟨ps, ⟨g0, t0, cs0, f0, p0, q0, hg0, ht0, hv0, hd0, ⟨g1, t1, cs1, f1, p1, q1, hg1, ht1, hv1, hd1, ⟨g2, t2, cs2, f2, p2, q2, hg2, ht2, hv2, hd2, ⟨g3, t3, cs3, f3, p3, q3, hg3, ht3, hv3, hd3, ⟨g4, t4, cs4, f4, p4, q4, hg4, ht4, hv4, hd4, _, _⟩, _⟩, _⟩, _⟩, _⟩, _, _⟩ := h
  obtain rfl := Option.some.inj (gDigits.symm.trans hg0)
  obtain rfl := Option.some.inj (gSigns.symm.trans hg1)
  obtain rfl := Option.some.inj (gBars.symm.trans hg2)
  obtain rfl := Option.some.inj (gAlways.symm.trans hg3)
  obtain rfl := Option.some.inj (gTruths.symm.trans hg4)
  obtain rfl := Option.some.inj (tDigits.symm.trans ht0)
  obtain rfl := Option.some.inj (tSigns.symm.trans ht1)
  obtain rfl := Option.some.inj (tBars.symm.trans ht2)
  obtain rfl := Option.some.inj (tAlways.symm.trans ht3)
  obtain rfl := Option.some.inj (tTruths.symm.trans ht4)
  have hc3 := two_of_trod (b0 := boolS) (b1 := intS) hd3
  subst hc3
  have hc4 := two_of_trod (b0 := falseS) (b1 := trueS) hd4
  subst hc4
  have h0 := World.var?_cell gAlways hv3 0
  have h1 := World.var?_cell gTruths hv4 0
  exact ⟨⟨⟨g4_of gSigns hv1 (set_of_trod hd1), g4_of gDigits hv0 (set_of_trod hd0), g4_of gBars hv2 (set_of_trod hd2)⟩, World.block_lt_of_cell? (a := ⟨_, 0, none⟩) W h0, h0, World.var?_cell gAlways hv3 1⟩, World.block_lt_of_cell? (a := ⟨_, 0, none⟩) W h1, h1, World.var?_cell gTruths hv4 1⟩
end Go.Proofs.YtfhcmhlbidjjgaaDoor
