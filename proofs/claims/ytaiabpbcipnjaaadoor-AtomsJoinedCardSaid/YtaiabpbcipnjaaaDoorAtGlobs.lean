/- What the listed variables hold, out of the row's condition. -/
import Derived.Test.YtaiabpbcipnjaaaDoorRows
import Derived.Test.YtaiabpbcipnjaaaDoorAtE
import Derived.ProofKit
import Derived.LaidMore
import Derived.OpenShut
import Derived.ChangeArms
import Derived.Stop.Joined
namespace Go.Proofs.YtaiabpbcipnjaaaDoor.Tm
open Go.ChangeShapes Go.WideShapes Go.ChangeAt Go.RowKit
def laidL : List (String × DataW Unit) := [("gantry/term.lens", Rows.laid_gantry_term_lens), ("gantry/atoms.kinds", Rows.laid_gantry_atoms_kinds), ("gantry/atoms.equalities", Rows.laid_gantry_atoms_equalities)]
def doorSteps : Nat := 40
set_option maxRecDepth 100000 in
theorem door_met (os : Os) (args : Array Value) : laidMetH Tryd.prog laidL ((World.doorLaid Tryd.prog doorSteps os).forCall (fun _ _ => 0) ⟨#[], args, []⟩).memory :=
  laidMetH_of_parts3 (fuel := 8) (laidMet_of_run' 8 (by kernel_rfl) (by kernel_rfl)) (by kernel_rfl) (by kernel_rfl)
theorem gLens : Tryd.prog.globalNamed "gantry/term.lens" = some 2 := by kernel_rfl
theorem gKinds : Tryd.prog.globalNamed "gantry/atoms.kinds" = some 1 := by kernel_rfl
theorem gEqs : Tryd.prog.globalNamed "gantry/atoms.equalities" = some 0 := by kernel_rfl
theorem tLens : (Tryd.prog.globals[2]?).map (·.type) = some 67 := by kernel_rfl
theorem tKinds : (Tryd.prog.globals[1]?).map (·.type) = some 67 := by kernel_rfl
theorem tEqs : (Tryd.prog.globals[0]?).map (·.type) = some 66 := by kernel_rfl
theorem cLens : Tryd.prog.cellsOf 67 = 14 := by kernel_rfl
theorem cEqs : Tryd.prog.cellsOf 66 = 3 := by kernel_rfl
theorem cSmall : Tryd.prog.cellsOf 31 = 1 := by kernel_rfl
theorem row8_of_trod {H : Type} {enc : TypeId × Value → H} {w : World} {base : Nat} {sp : Nat → Bool} {held : Bool} {fuel : Nat} {cs : Array Value} {p : List MemPlace} {T : TypeId} {N : Nat} (L : List Int)
    (hu : Tryd.prog.underlying T = some (.array N 31)) (hc : Tryd.prog.cellsOf T = N) (hN : L.length = N)
    (hd : DataW.trod enc Tryd.prog w base sp held fuel T cs.toList = some (.agg (L.map (fun n => DataW.lit (Lit.int .i8 n))), p)) (k : Nat) (v : Int) (hk : L[k]? = some v) : cs[k]? = some (.int .i8 v) := by
  obtain ⟨l⟩ := cs
  obtain ⟨xs, m, rfl, hx, hlen, hxs, hf⟩ := DataW.trod_array hu hd
  have hx1 : xs.map (·.1) = L.map (fun n => DataW.lit (Lit.int .i8 n)) := by
    have := congrArg (fun q : DataW H × List MemPlace => q.1) hx
    simp only [DataW.agg.injEq] at this
    exact this.symm
  have hkl : k < N := by have := (List.getElem?_eq_some_iff.1 hk).1; omega
  have h := hf k hkl
  rw [cSmall, Nat.mul_one] at h
  have hxi : (xs[k]?).map (·.1) = some (DataW.lit (Lit.int .i8 v)) := by
    rw [← List.getElem?_map, hx1, List.getElem?_map, hk]; rfl
  obtain ⟨z, hz, hz1⟩ := Option.map_eq_some_iff.1 hxi
  rw [hz] at h
  obtain ⟨n, e, e2, _⟩ := DataW.trod_int Tryd.underlying31 h
  rw [e2] at hz1
  simp only [DataW.lit.injEq, Lit.int.injEq, true_and] at hz1
  have e3 : ((l.drop k).take 1)[0]? = some (.int .i8 v) := by rw [e, hz1]; rfl
  rw [List.getElem?_take] at e3
  refine (by simp : (⟨l⟩ : Array Value)[k]? = l[k]?).trans ?_
  simpa [List.getElem?_drop] using e3
theorem globs_of {W : World} (h : laidMetH Tryd.prog laidL W) : GK W := by
  rw [MakeChecks.laidMetH_plain _ _ _ (by kernel_rfl)] at h
  obtain ⟨ps, ⟨g0, t0, cs0, f0, p0, q0, hg0, ht0, hv0, hd0, ⟨g1, t1, cs1, f1, p1, q1, hg1, ht1, hv1, hd1, ⟨g2, t2, cs2, f2, p2, q2, hg2, ht2, hv2, hd2, _, _⟩, _⟩, _⟩, _, _⟩ := h
  obtain rfl := Option.some.inj (gLens.symm.trans hg0)
  obtain rfl := Option.some.inj (gKinds.symm.trans hg1)
  obtain rfl := Option.some.inj (gEqs.symm.trans hg2)
  obtain rfl := Option.some.inj (tLens.symm.trans ht0)
  obtain rfl := Option.some.inj (tKinds.symm.trans ht1)
  obtain rfl := Option.some.inj (tEqs.symm.trans ht2)
  have c0 : ∀ k v, lensL[k]? = some v → W.cell? ⟨2, k, none⟩ = some (.int .i8 v) := fun k v hk => (World.var?_cell gLens hv0 k).trans (row8_of_trod lensL Tryd.underlying67 cLens rfl hd0 k v hk)
  have c1 : ∀ k v, kindsL[k]? = some v → W.cell? ⟨1, k, none⟩ = some (.int .i8 v) := fun k v hk => (World.var?_cell gKinds hv1 k).trans (row8_of_trod kindsL Tryd.underlying67 cLens rfl hd1 k v hk)
  have c2 : ∀ k v, eqsL[k]? = some v → W.cell? ⟨0, k, none⟩ = some (.int .i8 v) := fun k v hk => (World.var?_cell gEqs hv2 k).trans (row8_of_trod eqsL Tryd.underlying66 cEqs rfl hd2 k v hk)
  exact ⟨⟨World.block_lt_of_cell? (a := ⟨_, 0, none⟩) W (c0 0 0 rfl), c0⟩, World.block_lt_of_cell? (a := ⟨_, 0, none⟩) W (c1 0 1 rfl), c1, World.block_lt_of_cell? (a := ⟨_, 0, none⟩) W (c2 0 3 rfl), c2⟩
end Go.Proofs.YtaiabpbcipnjaaaDoor.Tm
