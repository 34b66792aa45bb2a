/- What the listed variables hold, out of the row's condition. -/
import Derived.Test.YtodonngnigbpaaaGreatDoorRows
import Derived.Test.YtodonngnigbpaaaGreatDoorCmA
import Derived.Test.YtodonngnigbpaaaGreatDoorCmT
import Derived.ProofKit
import Derived.LaidMore
import Derived.OpenShut
import Derived.ChangeArms
import Derived.Stop.Joined
namespace Go.Proofs.YtodonngnigbpaaaGreatDoor
open Go.ChangeShapes Go.WideShapes Go.ChangeAt Go.RowKit
def laidL : List (String × DataW Unit) := [("gantry/lex.digits", Rows.laid_gantry_lex_digits), ("gantry/lex.signs", Rows.laid_gantry_lex_signs), ("gantry/lex.inBars", Rows.laid_gantry_lex_inBars), ("gantry/command.heads", Rows.laid_gantry_command_heads)]
def doorSteps : Nat := 29
set_option maxRecDepth 100000 in
theorem door_met (os : Os) (args : Array Value) : laidMetH Tryz.prog laidL ((World.doorLaid Tryz.prog doorSteps os).forCall (fun _ _ => 0) ⟨#[], args, []⟩).memory :=
  laidMetH_of_parts3 (fuel := 8) (laidMet_of_run' 8 (by kernel_rfl) (by kernel_rfl)) (by kernel_rfl) (by kernel_rfl)
theorem gDigits : Tryz.prog.globalNamed "gantry/lex.digits" = some 3 := by kernel_rfl
theorem gSigns : Tryz.prog.globalNamed "gantry/lex.signs" = some 2 := by kernel_rfl
theorem gBars : Tryz.prog.globalNamed "gantry/lex.inBars" = some 1 := by kernel_rfl
theorem gHeads : Tryz.prog.globalNamed "gantry/command.heads" = some 0 := by kernel_rfl
theorem tDigits : (Tryz.prog.globals[3]?).map (·.type) = some 143 := by kernel_rfl
theorem tSigns : (Tryz.prog.globals[2]?).map (·.type) = some 143 := by kernel_rfl
theorem tBars : (Tryz.prog.globals[1]?).map (·.type) = some 143 := by kernel_rfl
theorem tHeads : (Tryz.prog.globals[0]?).map (·.type) = some 75 := by kernel_rfl
theorem cSet : Tryz.prog.cellsOf 143 = 4 := by kernel_rfl
theorem cWord : Tryz.prog.cellsOf 123 = 1 := by kernel_rfl
theorem cHeads : Tryz.prog.cellsOf 75 = 13 := by kernel_rfl
theorem cOneStr : Tryz.prog.cellsOf 9 = 1 := by kernel_rfl
theorem word_of_trod {H : Type} {enc : TypeId × Value → H} {P : Program} {w : World} {base : Nat} {sp : Nat → Bool} {held : Bool} {fuel : Nat} {t : TypeId} {k : IntKind} {c : Value} {y : DataW H × List MemPlace}
    (ht : P.underlying t = some (.int k)) (h : DataW.trod enc P w base sp held fuel t [c] = some y) : ∃ n, c = .int k n ∧ y = (.lit (.int k n), []) := by
  cases fuel with
  | zero => simp [DataW.trod] at h
  | succ fuel =>
    cases c <;> simp [DataW.trod, ht] at h
    rename_i k' n
    obtain ⟨⟨rfl, _⟩, rfl⟩ := h
    exact ⟨n, rfl, rfl⟩
theorem set_of_trod {H : Type} {enc : TypeId × Value → H} {w : World} {base : Nat} {sp : Nat → Bool} {held : Bool} {fuel : Nat} {cs : Array Value} {a0 a1 a2 a3 : Int} {p : List MemPlace}
    (hd : DataW.trod enc Tryz.prog w base sp held fuel 143 cs.toList = some (.agg [.lit (.int .u64 a0), .lit (.int .u64 a1), .lit (.int .u64 a2), .lit (.int .u64 a3)], p)) : cs = #[.int .u64 a0, .int .u64 a1, .int .u64 a2, .int .u64 a3] := by
  obtain ⟨l⟩ := cs
  cases fuel with
  | zero => simp [DataW.trod] at hd
  | succ fuel =>
    simp only [DataW.trod, Tryz.underlying143, cSet, cWord] at hd
    split at hd
    · rename_i hl
      obtain ⟨c0, c1, c2, c3, rfl⟩ : ∃ c0 c1 c2 c3, l = [c0, c1, c2, c3] := by
        match l, hl with
        | [a, b, c, d], _ => exact ⟨a, b, c, d, rfl⟩
      have e : List.range 4 = [0, 1, 2, 3] := rfl
      rw [e] at hd
      simp only [Option.map_eq_some_iff, List.mapM_cons, List.mapM_nil, Option.bind_eq_bind, Option.bind_eq_some_iff, Option.pure_def, Option.some.injEq] at hd
      obtain ⟨xs, ⟨y0, h0, _, ⟨y1, h1, _, ⟨y2, h2, _, ⟨y3, h3, _, rfl, rfl⟩, rfl⟩, rfl⟩, rfl⟩, hx⟩ := hd
      obtain ⟨n0, rfl, rfl⟩ := word_of_trod Tryz.underlying123 h0
      obtain ⟨n1, rfl, rfl⟩ := word_of_trod Tryz.underlying123 h1
      obtain ⟨n2, rfl, rfl⟩ := word_of_trod Tryz.underlying123 h2
      obtain ⟨n3, rfl, rfl⟩ := word_of_trod Tryz.underlying123 h3
      simp at hx
      obtain ⟨⟨rfl, rfl, rfl, rfl⟩, _⟩ := hx
      rfl
    · cases hd
theorem g4_of {W : World} {name : String} {g : Nat} {a0 a1 a2 a3 : Int} {cs : Array Value} (hg : Tryz.prog.globalNamed name = some g) (hv : W.var? Tryz.prog name = some cs) (hc : cs = #[.int .u64 a0, .int .u64 a1, .int .u64 a2, .int .u64 a3]) : G4 W g a0 a1 a2 a3 := by
  subst hc
  have h0 := World.var?_cell hg hv 0
  exact ⟨World.block_lt_of_cell? (a := ⟨g, 0, none⟩) W h0, h0, World.var?_cell hg hv 1, World.var?_cell hg hv 2, World.var?_cell hg hv 3⟩
theorem heads_len (l : List Value) (f : ∀ i s, headsL[i]? = some s → (l.drop i).take 1 = [.string (bytesL s)]) (k : Nat) (s : List UInt8) (hk : headsL[k]? = some s) : l[k]? = some (.string (bytesL s)) := by
  have e := f k s hk
  have e2 : ((l.drop k).take 1)[0]? = some (.string (bytesL s)) := by rw [e]; rfl
  rw [List.getElem?_take] at e2
  simpa [List.getElem?_drop] using e2
theorem heads_of_trod {H : Type} {enc : TypeId × Value → H} {w : World} {base : Nat} {sp : Nat → Bool} {held : Bool} {fuel : Nat} {cs : Array Value} {p : List MemPlace}
    (hd : DataW.trod enc Tryz.prog w base sp held fuel 75 cs.toList = some (Rows.laid_gantry_command_heads, p)) (k : Nat) (s : List UInt8) (hk : headsL[k]? = some s) : cs[k]? = some (.string (bytesL s)) := by
  obtain ⟨l⟩ := cs
  obtain ⟨xs, m, rfl, hx, hlen, hxs, hf⟩ := DataW.trod_array Tryz.underlying75 hd
  rw [cHeads] at hlen
  have hx1 : xs.map (·.1) = headsL.map (fun n => DataW.lit (Lit.string n)) := by
    have := congrArg (fun q : DataW H × List MemPlace => q.1) hx
    simp only [Rows.laid_gantry_command_heads, DataW.agg.injEq] at this
    exact this.symm
  refine (by simp : (⟨l⟩ : Array Value)[k]? = l[k]?).trans (heads_len l (fun i u hi => ?_) k s hk)
  have hi13 : i < 13 := (List.getElem?_eq_some_iff.1 hi).1
  have h := hf i hi13
  rw [cOneStr, Nat.mul_one] at h
  have hxi : (xs[i]?).map (·.1) = some (DataW.lit (Lit.string u)) := by
    rw [← List.getElem?_map, hx1, List.getElem?_map, hi]; rfl
  obtain ⟨z, hz, hz1⟩ := Option.map_eq_some_iff.1 hxi
  rw [hz] at h
  obtain ⟨n, e, e2, _⟩ := DataW.trod_string Tryz.underlying9 h
  rw [e2] at hz1
  simp only [DataW.lit.injEq, Lit.string.injEq] at hz1
  rw [e, ← hz1, bytesL_self]
theorem globs_of {W : World} (h : laidMetH Tryz.prog laidL W) : GH W := by
  rw [MakeChecks.laidMetH_plain _ _ _ (by kernel_rfl)] at h
  obtain ⟨ps, ⟨g0, t0, cs0, f0, p0, q0, hg0, ht0, hv0, hd0, ⟨g1, t1, cs1, f1, p1, q1, hg1, ht1, hv1, hd1, ⟨g2, t2, cs2, f2, p2, q2, hg2, ht2, hv2, hd2, ⟨g3, t3, cs3, f3, p3, q3, hg3, ht3, hv3, hd3, _, _⟩, _⟩, _⟩, _⟩, _⟩ := h
  obtain rfl := Option.some.inj (gDigits.symm.trans hg0)
  obtain rfl := Option.some.inj (gSigns.symm.trans hg1)
  obtain rfl := Option.some.inj (gBars.symm.trans hg2)
  obtain rfl := Option.some.inj (gHeads.symm.trans hg3)
  obtain rfl := Option.some.inj (tDigits.symm.trans ht0)
  obtain rfl := Option.some.inj (tSigns.symm.trans ht1)
  obtain rfl := Option.some.inj (tBars.symm.trans ht2)
  obtain rfl := Option.some.inj (tHeads.symm.trans ht3)
  have hh := heads_of_trod hd3
  have hc : ∀ k s, headsL[k]? = some s → W.cell? ⟨0, k, none⟩ = some (.string (bytesL s)) := fun k s hk => (World.var?_cell gHeads hv3 k).trans (hh k s hk)
  exact ⟨⟨g4_of gSigns hv1 (set_of_trod hd1), g4_of gDigits hv0 (set_of_trod hd0), g4_of gBars hv2 (set_of_trod hd2)⟩, World.block_lt_of_cell? (a := ⟨0, 0, none⟩) W (hc 0 _ rfl), hc⟩
end Go.Proofs.YtodonngnigbpaaaGreatDoor
