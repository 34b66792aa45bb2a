/- What the listed variables hold, out of the row's condition. -/
import Derived.Test.YtggighikemhnfaaDoorRows
import Derived.Test.YtggighikemhnfaaDoorZClC
import Derived.ProofKit
import Derived.LaidMore
import Derived.OpenShut
import Derived.ChangeArms
import Derived.Stop.Joined
namespace Go.Proofs.YtggighikemhnfaaDoor.Tm
open Go.ChangeShapes Go.WideShapes Go.ChangeAt Go.RowKit
def laidL : List (String × DataW Unit) := [("gantry/clause.turned", Rows.laid_gantry_clause_turned)]
def doorSteps : Nat := 40
set_option maxRecDepth 100000 in
theorem door_met (os : Os) (args : Array Value) : laidMetH Tryd.prog laidL ((World.doorLaid Tryd.prog doorSteps os).forCall (fun _ _ => 0) ⟨#[], args, []⟩).memory :=
  laidMetH_of_parts3 (fuel := 8) (laidMet_of_run' 8 (by kernel_rfl) (by kernel_rfl)) (by kernel_rfl) (by kernel_rfl)
theorem gTurn : Tryd.prog.globalNamed "gantry/clause.turned" = some 0 := by kernel_rfl
theorem tTurn : (Tryd.prog.globals[0]?).map (·.type) = some 102 := by kernel_rfl
theorem cTurn : Tryd.prog.cellsOf 102 = 3 := by kernel_rfl
theorem cSmall : Tryd.prog.cellsOf 31 = 1 := by kernel_rfl
theorem row8_of_trod {H : Type} {enc : TypeId × Value → H} {w : World} {base : Nat} {sp : Nat → Bool} {held : Bool} {fuel : Nat} {cs : Array Value} {p : List MemPlace} {T : TypeId} {N : Nat} (L : List Int)
    (hu : Tryd.prog.underlying T = some (.array N 31)) (hc : Tryd.prog.cellsOf T = N) (hN : L.length = N)
    (hd : DataW.trod enc Tryd.prog w base sp held fuel T cs.toList = some (.agg (L.map (fun n => DataW.lit (Lit.int .i8 n))), p)) (k : Nat) (v : Int) (hk : L[k]? = some v) : cs[k]? = some (.int .i8 v) := by
  obtain ⟨l⟩ := cs
  obtain ⟨xs, m, rfl, hx, hlen, hxs, hf⟩ := DataW.trod_array hu hd
  have hx1 : xs.map (·.1) = L.map (fun n => DataW.lit (Lit.int .i8 n)) := by
    have := congrArg (fun q : DataW H × List MemPlace => q.1) hx
    simp only [DataW.agg.injEq] at this
    exact this.symm
  have hkl : k < N := by have := (List.getElem?_eq_some_iff.1 hk).1; omega
  have h := hf k hkl
  rw [cSmall, Nat.mul_one] at h
  have hxi : (xs[k]?).map (·.1) = some (DataW.lit (Lit.int .i8 v)) := by
    rw [← List.getElem?_map, hx1, List.getElem?_map, hk]; rfl
  obtain ⟨z, hz, hz1⟩ := Option.map_eq_some_iff.1 hxi
  rw [hz] at h
  obtain ⟨n, e, e2, _⟩ := DataW.trod_int Tryd.underlying31 h
  rw [e2] at hz1
  simp only [DataW.lit.injEq, Lit.int.injEq, true_and] at hz1
  have e3 : ((l.drop k).take 1)[0]? = some (.int .i8 v) := by rw [e, hz1]; rfl
  rw [List.getElem?_take] at e3
  refine (by simp : (⟨l⟩ : Array Value)[k]? = l[k]?).trans ?_
  simpa [List.getElem?_drop] using e3
theorem globs_of {W : World} (h : laidMetH Tryd.prog laidL W) : GC W := by
  rw [MakeChecks.laidMetH_plain _ _ _ (by kernel_rfl)] at h
  obtain ⟨ps, ⟨g0, t0, cs0, f0, p0, q0, hg0, ht0, hv0, hd0, _, _⟩, _, _⟩ := h
  obtain rfl := Option.some.inj (gTurn.symm.trans hg0)
  obtain rfl := Option.some.inj (tTurn.symm.trans ht0)
  have c0 : ∀ k v, turnL[k]? = some v → W.cell? ⟨0, k, none⟩ = some (.int .i8 v) := fun k v hk => (World.var?_cell gTurn hv0 k).trans (row8_of_trod turnL Tryd.underlying102 cTurn rfl hd0 k v hk)
  exact ⟨World.block_lt_of_cell? (a := ⟨_, 0, none⟩) W (c0 0 0 rfl), c0⟩
end Go.Proofs.YtggighikemhnfaaDoor.Tm
