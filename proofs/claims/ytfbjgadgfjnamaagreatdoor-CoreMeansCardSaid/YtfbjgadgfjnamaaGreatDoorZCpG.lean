/- What the listed variables hold, out of the row's condition. -/
import Derived.Test.YtfbjgadgfjnamaaGreatDoorRows
import Derived.Test.YtfbjgadgfjnamaaGreatDoorZCqF
import Derived.ProofKit
import Derived.LaidMore
import Derived.OpenShut
import Derived.ChangeArms
import Derived.Stop.Joined
namespace Go.Proofs.YtfbjgadgfjnamaaGreatDoor.Tm
open Go.ChangeShapes Go.WideShapes Go.ChangeAt Go.RowKit
def laidL : List (String × DataW Unit) := [("gantry/term.lens", Rows.laid_gantry_term_lens), ("gantry/typing.rules", Rows.laid_gantry_typing_rules)]
def doorSteps : Nat := 40
set_option maxRecDepth 100000 in
theorem door_met (os : Os) (args : Array Value) : laidMetH Tryz.prog laidL ((World.doorLaid Tryz.prog doorSteps os).forCall (fun _ _ => 0) ⟨#[], args, []⟩).memory :=
  laidMetH_of_parts3 (fuel := 8) (laidMet_of_run' 8 (by kernel_rfl) (by kernel_rfl)) (by kernel_rfl) (by kernel_rfl)
theorem gLens : Tryz.prog.globalNamed "gantry/term.lens" = some 0 := by kernel_rfl
theorem tLens : (Tryz.prog.globals[0]?).map (·.type) = some 213 := by kernel_rfl
theorem cLens : Tryz.prog.cellsOf 213 = 14 := by kernel_rfl
theorem cSmall : Tryz.prog.cellsOf 44 = 1 := by kernel_rfl
theorem lens_len (l : List Value) (f : ∀ i v, lensL[i]? = some v → (l.drop i).take 1 = [.int .i8 v]) (k : Nat) (v : Int) (hk : lensL[k]? = some v) : l[k]? = some (.int .i8 v) := by
  have e := f k v hk
  have e2 : ((l.drop k).take 1)[0]? = some (.int .i8 v) := by rw [e]; rfl
  rw [List.getElem?_take] at e2
  simpa [List.getElem?_drop] using e2
theorem lens_of_trod {H : Type} {enc : TypeId × Value → H} {w : World} {base : Nat} {sp : Nat → Bool} {held : Bool} {fuel : Nat} {cs : Array Value} {p : List MemPlace}
    (hd : DataW.trod enc Tryz.prog w base sp held fuel 213 cs.toList = some (Rows.laid_gantry_term_lens, p)) (k : Nat) (v : Int) (hk : lensL[k]? = some v) : cs[k]? = some (.int .i8 v) := by
  obtain ⟨l⟩ := cs
  obtain ⟨xs, m, rfl, hx, hlen, hxs, hf⟩ := DataW.trod_array Tryz.underlying213 hd
  rw [cLens] at hlen
  have hx1 : xs.map (·.1) = lensL.map (fun n => DataW.lit (Lit.int .i8 n)) := by
    have := congrArg (fun q : DataW H × List MemPlace => q.1) hx
    simp only [Rows.laid_gantry_term_lens, DataW.agg.injEq] at this
    exact this.symm
  refine (by simp : (⟨l⟩ : Array Value)[k]? = l[k]?).trans (lens_len l (fun i u hi => ?_) k v hk)
  have hi14 : i < 14 := (List.getElem?_eq_some_iff.1 hi).1
  have h := hf i hi14
  rw [cSmall, Nat.mul_one] at h
  have hxi : (xs[i]?).map (·.1) = some (DataW.lit (Lit.int .i8 u)) := by
    rw [← List.getElem?_map, hx1, List.getElem?_map, hi]; rfl
  obtain ⟨z, hz, hz1⟩ := Option.map_eq_some_iff.1 hxi
  rw [hz] at h
  obtain ⟨n, e, e2, _⟩ := DataW.trod_int Tryz.underlying44 h
  rw [e2] at hz1
  simp only [DataW.lit.injEq, Lit.int.injEq, true_and] at hz1
  rw [e, hz1]
theorem gRules : Tryz.prog.globalNamed "gantry/typing.rules" = some 1 := by kernel_rfl
theorem tRules : (Tryz.prog.globals[1]?).map (·.type) = some 214 := by kernel_rfl
theorem cRule : Tryz.prog.cellsOf 186 = 5 := by kernel_rfl
theorem cArgs : Tryz.prog.cellsOf 184 = 3 := by kernel_rfl
theorem cNum : Tryz.prog.cellsOf 3 = 1 := by kernel_rfl
def ruleD {H : Type} (r : RuleA) : DataW H := .agg [.lit (.int .i64 r.many), .agg [.lit (.int .i64 r.a0), .lit (.int .i64 r.a1), .lit (.int .i64 r.a2)], .lit (.int .i64 r.sort)]
theorem int_of_trod {H : Type} {enc : TypeId × Value → H} {w : World} {base : Nat} {sp : Nat → Bool} {held : Bool} {fuel : Nat} {c : Value} {y : DataW H × List MemPlace} {v : Int}
    (h : DataW.trod enc Tryz.prog w base sp held fuel 3 [c] = some y) (hv : y.1 = .lit (.int .i64 v)) : c = .int .i64 v := by
  obtain ⟨n, e, e2, _⟩ := DataW.trod_int Tryz.underlying3 h
  rw [e2] at hv
  simp only [List.cons.injEq, and_true] at e
  simp only [DataW.lit.injEq, Lit.int.injEq, true_and] at hv
  rw [e, hv]
theorem five {α : Type} {l : List α} (h : l.length = 5) : ∃ a b c d e, l = [a, b, c, d, e] := by
  match l, h with
  | [a, b, c, d, e], _ => exact ⟨a, b, c, d, e, rfl⟩
theorem three {α : Type} {l : List α} (h : l.length = 3) : ∃ a b c, l = [a, b, c] := by
  match l, h with
  | [a, b, c], _ => exact ⟨a, b, c, rfl⟩
theorem rule_of_trod {H : Type} {enc : TypeId × Value → H} {w : World} {base : Nat} {sp : Nat → Bool} {held : Bool} {fuel : Nat} {cs : List Value} {y : DataW H × List MemPlace} {r : RuleA}
    (h : DataW.trod enc Tryz.prog w base sp held fuel 186 cs = some y) (hr : y.1 = ruleD r) : cs = [.int .i64 r.many, .int .i64 r.a0, .int .i64 r.a1, .int .i64 r.a2, .int .i64 r.sort] := by
  obtain ⟨xs, n, rfl, rfl, hlen, hxs, hf⟩ := DataW.trod_struct Tryz.underlying186 h
  rw [cRule] at hlen
  clear h
  obtain ⟨c0, c1, c2, c3, c4, rfl⟩ := five hlen
  obtain ⟨y0, y1, y2, rfl⟩ := three (show xs.length = 3 from hxs)
  have h0 := hf 0 ({ name := "many", type := 3, offset := 0, embedded := false, tag := "", pkgPath := "gantry/typing", byteOffset := 0 }) rfl
  have h1 := hf 1 ({ name := "args", type := 184, offset := 1, embedded := false, tag := "", pkgPath := "gantry/typing", byteOffset := 8 }) rfl
  have h2 := hf 2 ({ name := "sort", type := 3, offset := 4, embedded := false, tag := "", pkgPath := "gantry/typing", byteOffset := 32 }) rfl
  simp only [cNum, cArgs, List.drop_zero, List.take_succ_cons, List.take_zero, List.drop_succ_cons, List.getElem?_cons_zero, List.getElem?_cons_succ] at h0 h1 h2
  simp only [ruleD, List.map_cons, List.map_nil, DataW.agg.injEq, List.cons.injEq, and_true] at hr
  obtain ⟨q0, q1, q2⟩ := hr
  obtain rfl := int_of_trod h0 q0
  obtain rfl := int_of_trod h2 q2
  obtain ⟨zs, m, rfl, hx, hl2, hz, hg⟩ := DataW.trod_array Tryz.underlying184 h1
  obtain ⟨z0, z1, z2, rfl⟩ := three hz
  have g0 := hg 0 (by decide)
  have g1 := hg 1 (by decide)
  have g2 := hg 2 (by decide)
  simp only [cNum, Nat.mul_one, List.drop_zero, List.take_succ_cons, List.take_zero, List.drop_succ_cons, List.getElem?_cons_zero, List.getElem?_cons_succ] at g0 g1 g2
  rw [hx] at q1
  simp only [List.map_cons, List.map_nil, DataW.agg.injEq, List.cons.injEq, and_true] at q1
  obtain ⟨k0, k1, k2⟩ := q1
  rw [int_of_trod g0 k0, int_of_trod g1 k1, int_of_trod g2 k2]
theorem rules_of_trod {H : Type} {enc : TypeId × Value → H} {w : World} {base : Nat} {sp : Nat → Bool} {held : Bool} {fuel : Nat} {cs : Array Value} {p : List MemPlace}
    (hd : DataW.trod enc Tryz.prog w base sp held fuel 214 cs.toList = some (Rows.laid_gantry_typing_rules, p)) (k : Nat) (r : RuleA) (hk : rulesL[k]? = some r) (j : Nat) (v : Value) (hj : ([.int .i64 r.many, .int .i64 r.a0, .int .i64 r.a1, .int .i64 r.a2, .int .i64 r.sort] : List Value)[j]? = some v) : cs[k * 5 + j]? = some v := by
  obtain ⟨l⟩ := cs
  obtain ⟨xs, m, rfl, hx, hlen, hxs, hf⟩ := DataW.trod_array Tryz.underlying214 hd
  have hx1 : xs.map (·.1) = rulesL.map ruleD := by
    have := congrArg (fun q : DataW H × List MemPlace => q.1) hx
    simp only [Rows.laid_gantry_typing_rules, DataW.agg.injEq] at this
    exact this.symm
  have hk13 : k < 13 := (List.getElem?_eq_some_iff.1 hk).1
  have h := hf k hk13
  rw [cRule] at h
  have hxi : (xs[k]?).map (·.1) = some (ruleD r) := by
    rw [← List.getElem?_map, hx1, List.getElem?_map, hk]; rfl
  obtain ⟨z, hz, hz1⟩ := Option.map_eq_some_iff.1 hxi
  rw [hz] at h
  have e := rule_of_trod h hz1
  have e2 : ((l.drop (k * 5)).take 5)[j]? = some v := by rw [e]; exact hj
  have hj5 : j < 5 := (List.getElem?_eq_some_iff.1 hj).1
  refine (by simp : (⟨l⟩ : Array Value)[k * 5 + j]? = l[k * 5 + j]?).trans ?_
  rw [List.getElem?_take, if_pos hj5, List.getElem?_drop] at e2
  exact e2
theorem globs_of {W : World} (h : laidMetH Tryz.prog laidL W) : GC W := by
  rw [MakeChecks.laidMetH_plain _ _ _ (by kernel_rfl)] at h
  obtain ⟨ps, ⟨g3, t3, cs3, f3, p3, q3, hg3, ht3, hv3, hd3, ⟨g4, t4, cs4, f4, p4, q4, hg4, ht4, hv4, hd4, _, _⟩, _⟩, _, _⟩ := h
  obtain rfl := Option.some.inj (gLens.symm.trans hg3)
  obtain rfl := Option.some.inj (gRules.symm.trans hg4)
  obtain rfl := Option.some.inj (tLens.symm.trans ht3)
  obtain rfl := Option.some.inj (tRules.symm.trans ht4)
  have hc3 := lens_of_trod hd3
  have cell3 : ∀ k v, lensL[k]? = some v → W.cell? ⟨0, k, none⟩ = some (.int .i8 v) := fun k v hk => (World.var?_cell gLens hv3 k).trans (hc3 k v hk)
  have hc4 := rules_of_trod hd4
  have cell4 : ∀ k r, rulesL[k]? = some r → ∀ j v, ([.int .i64 r.many, .int .i64 r.a0, .int .i64 r.a1, .int .i64 r.a2, .int .i64 r.sort] : List Value)[j]? = some v → W.cell? ⟨1, k * 5 + j, none⟩ = some v := fun k r hk j v hj => (World.var?_cell gRules hv4 (k * 5 + j)).trans (hc4 k r hk j v hj)
  exact ⟨⟨World.block_lt_of_cell? (a := ⟨_, 0, none⟩) W (cell3 0 0 rfl), cell3⟩,
    ⟨World.block_lt_of_cell? (a := ⟨_, 0, none⟩) W (cell4 0 ⟨0, 0, 0, 0, 0⟩ rfl 0 _ rfl), fun k r hk => ⟨cell4 k r hk 0 _ rfl, cell4 k r hk 1 _ rfl, cell4 k r hk 2 _ rfl, cell4 k r hk 3 _ rfl, cell4 k r hk 4 _ rfl⟩⟩⟩
end Go.Proofs.YtfbjgadgfjnamaaGreatDoor.Tm
