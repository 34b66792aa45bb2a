/- What the listed variables hold, out of the row's condition. -/
import Derived.Test.YtbddghcdibdloaaGreatDoorRows
import Derived.Test.YtbddghcdibdloaaGreatDoorEvJ
import Derived.ProofKit
import Derived.LaidMore
import Derived.OpenShut
import Derived.ChangeArms
import Derived.Stop.Joined
namespace Go.Proofs.YtbddghcdibdloaaGreatDoor
open Go.ChangeShapes Go.WideShapes Go.ChangeAt Go.RowKit
def laidL : List (String × DataW Unit) := [("gantry/lex.signs", Rows.laid_gantry_lex_signs), ("gantry/lex.inBars", Rows.laid_gantry_lex_inBars), ("gantry/sig.always", Rows.laid_gantry_sig_always), ("gantry/term.lens", Rows.laid_gantry_term_lens), ("gantry/typing.rules", Rows.laid_gantry_typing_rules)]
def doorSteps : Nat := 60
set_option maxRecDepth 100000 in
theorem door_met (os : Os) (args : Array Value) : laidMetH Tryz.prog laidL ((World.doorLaid Tryz.prog doorSteps os).forCall (fun _ _ => 0) ⟨#[], args, []⟩).memory :=
  laidMetH_of_parts3 (fuel := 8) (laidMet_of_run' 8 (by kernel_rfl) (by kernel_rfl)) (by kernel_rfl) (by kernel_rfl)
theorem gSigns : Tryz.prog.globalNamed "gantry/lex.signs" = some 4 := by kernel_rfl
theorem gBars : Tryz.prog.globalNamed "gantry/lex.inBars" = some 2 := by kernel_rfl
theorem gAlways : Tryz.prog.globalNamed "gantry/sig.always" = some 3 := by kernel_rfl
theorem tSigns : (Tryz.prog.globals[4]?).map (·.type) = some 153 := by kernel_rfl
theorem tBars : (Tryz.prog.globals[2]?).map (·.type) = some 153 := by kernel_rfl
theorem tAlways : (Tryz.prog.globals[3]?).map (·.type) = some 154 := by kernel_rfl
theorem cSet : Tryz.prog.cellsOf 153 = 4 := by kernel_rfl
theorem cWord : Tryz.prog.cellsOf 25 = 1 := by kernel_rfl
theorem cTwo : Tryz.prog.cellsOf 154 = 2 := by kernel_rfl
theorem cOne : Tryz.prog.cellsOf 9 = 1 := by kernel_rfl
theorem word_of_trod {H : Type} {enc : TypeId × Value → H} {P : Program} {w : World} {base : Nat} {sp : Nat → Bool} {held : Bool} {fuel : Nat} {t : TypeId} {k : IntKind} {c : Value} {y : DataW H × List MemPlace}
    (ht : P.underlying t = some (.int k)) (h : DataW.trod enc P w base sp held fuel t [c] = some y) : ∃ n, c = .int k n ∧ y = (.lit (.int k n), []) := by
  cases fuel with
  | zero => simp [DataW.trod] at h
  | succ fuel =>
    cases c <;> simp [DataW.trod, ht] at h
    rename_i k' n
    obtain ⟨⟨rfl, _⟩, rfl⟩ := h
    exact ⟨n, rfl, rfl⟩
theorem set_of_trod {H : Type} {enc : TypeId × Value → H} {w : World} {base : Nat} {sp : Nat → Bool} {held : Bool} {fuel : Nat} {cs : Array Value} {a0 a1 a2 a3 : Int} {p : List MemPlace}
    (hd : DataW.trod enc Tryz.prog w base sp held fuel 153 cs.toList = some (.agg [.lit (.int .u64 a0), .lit (.int .u64 a1), .lit (.int .u64 a2), .lit (.int .u64 a3)], p)) : cs = #[.int .u64 a0, .int .u64 a1, .int .u64 a2, .int .u64 a3] := by
  obtain ⟨l⟩ := cs
  cases fuel with
  | zero => simp [DataW.trod] at hd
  | succ fuel =>
    simp only [DataW.trod, Tryz.underlying153, cSet, cWord] at hd
    split at hd
    · rename_i hl
      obtain ⟨c0, c1, c2, c3, rfl⟩ : ∃ c0 c1 c2 c3, l = [c0, c1, c2, c3] := by
        match l, hl with
        | [a, b, c, d], _ => exact ⟨a, b, c, d, rfl⟩
      have e : List.range 4 = [0, 1, 2, 3] := rfl
      rw [e] at hd
      simp only [Option.map_eq_some_iff, List.mapM_cons, List.mapM_nil, Option.bind_eq_bind, Option.bind_eq_some_iff, Option.pure_def, Option.some.injEq] at hd
      obtain ⟨xs, ⟨y0, h0, _, ⟨y1, h1, _, ⟨y2, h2, _, ⟨y3, h3, _, rfl, rfl⟩, rfl⟩, rfl⟩, rfl⟩, hx⟩ := hd
      obtain ⟨n0, rfl, rfl⟩ := word_of_trod Tryz.underlying25 h0
      obtain ⟨n1, rfl, rfl⟩ := word_of_trod Tryz.underlying25 h1
      obtain ⟨n2, rfl, rfl⟩ := word_of_trod Tryz.underlying25 h2
      obtain ⟨n3, rfl, rfl⟩ := word_of_trod Tryz.underlying25 h3
      simp at hx
      obtain ⟨⟨rfl, rfl, rfl, rfl⟩, _⟩ := hx
      rfl
    · cases hd
theorem two_of_trod {H : Type} {enc : TypeId × Value → H} {w : World} {base : Nat} {sp : Nat → Bool} {held : Bool} {fuel : Nat} {cs : Array Value} {b0 b1 : ByteArray} {p : List MemPlace}
    (hd : DataW.trod enc Tryz.prog w base sp held fuel 154 cs.toList = some (.agg [.lit (.string b0.data.toList), .lit (.string b1.data.toList)], p)) : cs = #[.string b0, .string b1] := by
  obtain ⟨l⟩ := cs
  obtain ⟨xs, m, rfl, hx, hlen, hxs, hf⟩ := DataW.trod_array Tryz.underlying154 hd
  rw [cTwo] at hlen
  obtain ⟨c0, c1, rfl⟩ : ∃ c0 c1, l = [c0, c1] := by
    clear hd hf hx
    match l, hlen with
    | [a, b], _ => exact ⟨a, b, rfl⟩
  obtain ⟨y0, y1, rfl⟩ : ∃ a b, xs = [a, b] := by
    clear hd hf hx
    match xs, hxs with
    | [a, b], _ => exact ⟨a, b, rfl⟩
  have h0 := hf 0 (by decide)
  have h1 := hf 1 (by decide)
  simp only [cOne, Nat.zero_mul, Nat.one_mul, List.drop_zero, List.take_succ_cons, List.take_zero, List.drop_succ_cons, List.getElem?_cons_zero, List.getElem?_cons_succ] at h0 h1
  obtain ⟨s0, e0, rfl, _⟩ := DataW.trod_string Tryz.underlying9 h0
  obtain ⟨s1, e1, rfl, _⟩ := DataW.trod_string Tryz.underlying9 h1
  simp only [List.cons.injEq, and_true] at e0 e1
  subst e0 e1
  simp only [List.map_cons, List.map_nil, Prod.mk.injEq, DataW.agg.injEq, List.cons.injEq, DataW.lit.injEq, Lit.string.injEq, and_true] at hx
  obtain ⟨⟨q0, q1⟩, _⟩ := hx
  rw [ByteArray.ext (Array.toList_inj.1 q0), ByteArray.ext (Array.toList_inj.1 q1)]
theorem g4_of {W : World} {name : String} {g : Nat} {a0 a1 a2 a3 : Int} {cs : Array Value} (hg : Tryz.prog.globalNamed name = some g) (hv : W.var? Tryz.prog name = some cs) (hc : cs = #[.int .u64 a0, .int .u64 a1, .int .u64 a2, .int .u64 a3]) : G4 W g a0 a1 a2 a3 := by
  subst hc
  have h0 := World.var?_cell hg hv 0
  exact ⟨World.block_lt_of_cell? (a := ⟨g, 0, none⟩) W h0, h0, World.var?_cell hg hv 1, World.var?_cell hg hv 2, World.var?_cell hg hv 3⟩
theorem gLens : Tryz.prog.globalNamed "gantry/term.lens" = some 0 := by kernel_rfl
theorem tLens : (Tryz.prog.globals[0]?).map (·.type) = some 143 := by kernel_rfl
theorem cLens : Tryz.prog.cellsOf 143 = 14 := by kernel_rfl
theorem cSmall : Tryz.prog.cellsOf 39 = 1 := by kernel_rfl
theorem lens_len (l : List Value) (f : ∀ i v, Tm.lensL[i]? = some v → (l.drop i).take 1 = [.int .i8 v]) (k : Nat) (v : Int) (hk : Tm.lensL[k]? = some v) : l[k]? = some (.int .i8 v) := by
  have e := f k v hk
  have e2 : ((l.drop k).take 1)[0]? = some (.int .i8 v) := by rw [e]; rfl
  rw [List.getElem?_take] at e2
  simpa [List.getElem?_drop] using e2
theorem lens_of_trod {H : Type} {enc : TypeId × Value → H} {w : World} {base : Nat} {sp : Nat → Bool} {held : Bool} {fuel : Nat} {cs : Array Value} {p : List MemPlace}
    (hd : DataW.trod enc Tryz.prog w base sp held fuel 143 cs.toList = some (Rows.laid_gantry_term_lens, p)) (k : Nat) (v : Int) (hk : Tm.lensL[k]? = some v) : cs[k]? = some (.int .i8 v) := by
  obtain ⟨l⟩ := cs
  obtain ⟨xs, m, rfl, hx, hlen, hxs, hf⟩ := DataW.trod_array Tryz.underlying143 hd
  rw [cLens] at hlen
  have hx1 : xs.map (·.1) = Tm.lensL.map (fun n => DataW.lit (Lit.int .i8 n)) := by
    have := congrArg (fun q : DataW H × List MemPlace => q.1) hx
    simp only [Rows.laid_gantry_term_lens, DataW.agg.injEq] at this
    exact this.symm
  refine (by simp : (⟨l⟩ : Array Value)[k]? = l[k]?).trans (lens_len l (fun i u hi => ?_) k v hk)
  have hi14 : i < 14 := (List.getElem?_eq_some_iff.1 hi).1
  have h := hf i hi14
  rw [cSmall, Nat.mul_one] at h
  have hxi : (xs[i]?).map (·.1) = some (DataW.lit (Lit.int .i8 u)) := by
    rw [← List.getElem?_map, hx1, List.getElem?_map, hi]; rfl
  obtain ⟨z, hz, hz1⟩ := Option.map_eq_some_iff.1 hxi
  rw [hz] at h
  obtain ⟨n, e, e2, _⟩ := DataW.trod_int Tryz.underlying39 h
  rw [e2] at hz1
  simp only [DataW.lit.injEq, Lit.int.injEq, true_and] at hz1
  rw [e, hz1]
theorem gRules : Tryz.prog.globalNamed "gantry/typing.rules" = some 1 := by kernel_rfl
theorem tRules : (Tryz.prog.globals[1]?).map (·.type) = some 144 := by kernel_rfl
theorem cRules : Tryz.prog.cellsOf 144 = 65 := by kernel_rfl
theorem cRule : Tryz.prog.cellsOf 108 = 5 := by kernel_rfl
theorem cArgs : Tryz.prog.cellsOf 106 = 3 := by kernel_rfl
theorem cNum : Tryz.prog.cellsOf 3 = 1 := by kernel_rfl
def ruleD {H : Type} (r : Tm.RuleA) : DataW H := .agg [.lit (.int .i64 r.many), .agg [.lit (.int .i64 r.a0), .lit (.int .i64 r.a1), .lit (.int .i64 r.a2)], .lit (.int .i64 r.sort)]
theorem int_of_trod {H : Type} {enc : TypeId × Value → H} {w : World} {base : Nat} {sp : Nat → Bool} {held : Bool} {fuel : Nat} {c : Value} {y : DataW H × List MemPlace} {v : Int}
    (h : DataW.trod enc Tryz.prog w base sp held fuel 3 [c] = some y) (hv : y.1 = .lit (.int .i64 v)) : c = .int .i64 v := by
  obtain ⟨n, e, e2, _⟩ := DataW.trod_int Tryz.underlying3 h
  rw [e2] at hv
  simp only [List.cons.injEq, and_true] at e
  simp only [DataW.lit.injEq, Lit.int.injEq, true_and] at hv
  rw [e, hv]
theorem five {α : Type} {l : List α} (h : l.length = 5) : ∃ a b c d e, l = [a, b, c, d, e] := by
  match l, h with
  | [a, b, c, d, e], _ => exact ⟨a, b, c, d, e, rfl⟩
theorem three {α : Type} {l : List α} (h : l.length = 3) : ∃ a b c, l = [a, b, c] := by
  match l, h with
  | [a, b, c], _ => exact ⟨a, b, c, rfl⟩
theorem rule_of_trod {H : Type} {enc : TypeId × Value → H} {w : World} {base : Nat} {sp : Nat → Bool} {held : Bool} {fuel : Nat} {cs : List Value} {y : DataW H × List MemPlace} {r : Tm.RuleA}
    (h : DataW.trod enc Tryz.prog w base sp held fuel 108 cs = some y) (hr : y.1 = ruleD r) : cs = [.int .i64 r.many, .int .i64 r.a0, .int .i64 r.a1, .int .i64 r.a2, .int .i64 r.sort] := by
  obtain ⟨xs, n, rfl, rfl, hlen, hxs, hf⟩ := DataW.trod_struct Tryz.underlying108 h
  rw [cRule] at hlen
  clear h
  obtain ⟨c0, c1, c2, c3, c4, rfl⟩ := five hlen
  obtain ⟨y0, y1, y2, rfl⟩ := three (show xs.length = 3 from hxs)
  have h0 := hf 0 ({ name := "many", type := 3, offset := 0, embedded := false, tag := "", pkgPath := "gantry/typing", byteOffset := 0 }) rfl
  have h1 := hf 1 ({ name := "args", type := 106, offset := 1, embedded := false, tag := "", pkgPath := "gantry/typing", byteOffset := 8 }) rfl
  have h2 := hf 2 ({ name := "sort", type := 3, offset := 4, embedded := false, tag := "", pkgPath := "gantry/typing", byteOffset := 32 }) rfl
  simp only [cNum, cArgs, List.drop_zero, List.take_succ_cons, List.take_zero, List.drop_succ_cons, List.getElem?_cons_zero, List.getElem?_cons_succ] at h0 h1 h2
  simp only [ruleD, List.map_cons, List.map_nil, DataW.agg.injEq, List.cons.injEq, and_true] at hr
  obtain ⟨q0, q1, q2⟩ := hr
  obtain rfl := int_of_trod h0 q0
  obtain rfl := int_of_trod h2 q2
  obtain ⟨zs, m, rfl, hx, hl2, hz, hg⟩ := DataW.trod_array Tryz.underlying106 h1
  obtain ⟨z0, z1, z2, rfl⟩ := three hz
  have g0 := hg 0 (by decide)
  have g1 := hg 1 (by decide)
  have g2 := hg 2 (by decide)
  simp only [cNum, Nat.mul_one, List.drop_zero, List.take_succ_cons, List.take_zero, List.drop_succ_cons, List.getElem?_cons_zero, List.getElem?_cons_succ] at g0 g1 g2
  rw [hx] at q1
  simp only [List.map_cons, List.map_nil, DataW.agg.injEq, List.cons.injEq, and_true] at q1
  obtain ⟨k0, k1, k2⟩ := q1
  rw [int_of_trod g0 k0, int_of_trod g1 k1, int_of_trod g2 k2]
theorem rules_of_trod {H : Type} {enc : TypeId × Value → H} {w : World} {base : Nat} {sp : Nat → Bool} {held : Bool} {fuel : Nat} {cs : Array Value} {p : List MemPlace}
    (hd : DataW.trod enc Tryz.prog w base sp held fuel 144 cs.toList = some (Rows.laid_gantry_typing_rules, p)) (k : Nat) (r : Tm.RuleA) (hk : Tm.rulesL[k]? = some r) (j : Nat) (v : Value) (hj : ([.int .i64 r.many, .int .i64 r.a0, .int .i64 r.a1, .int .i64 r.a2, .int .i64 r.sort] : List Value)[j]? = some v) : cs[k * 5 + j]? = some v := by
  obtain ⟨l⟩ := cs
  obtain ⟨xs, m, rfl, hx, hlen, hxs, hf⟩ := DataW.trod_array Tryz.underlying144 hd
  have hx1 : xs.map (·.1) = Tm.rulesL.map ruleD := by
    have := congrArg (fun q : DataW H × List MemPlace => q.1) hx
    simp only [Rows.laid_gantry_typing_rules, DataW.agg.injEq] at this
    exact this.symm
  have hk13 : k < 13 := (List.getElem?_eq_some_iff.1 hk).1
  have h := hf k hk13
  rw [cRule] at h
  have hxi : (xs[k]?).map (·.1) = some (ruleD r) := by
    rw [← List.getElem?_map, hx1, List.getElem?_map, hk]; rfl
  obtain ⟨z, hz, hz1⟩ := Option.map_eq_some_iff.1 hxi
  rw [hz] at h
  have e := rule_of_trod h hz1
  have e2 : ((l.drop (k * 5)).take 5)[j]? = some v := by rw [e]; exact hj
  have hj5 : j < 5 := (List.getElem?_eq_some_iff.1 hj).1
  refine (by simp : (⟨l⟩ : Array Value)[k * 5 + j]? = l[k * 5 + j]?).trans ?_
  rw [List.getElem?_take, if_pos hj5, List.getElem?_drop] at e2
  exact e2
theorem globs_of {W : World} (h : laidMetH Tryz.prog laidL W) : GA W := by
  rw [MakeChecks.laidMetH_plain _ _ _ (by kernel_rfl)] at h
  obtain ⟨ps, ⟨g0, t0, cs0, f0, p0, q0, hg0, ht0, hv0, hd0, ⟨g1, t1, cs1, f1, p1, q1, hg1, ht1, hv1, hd1, ⟨g2, t2, cs2, f2, p2, q2, hg2, ht2, hv2, hd2, ⟨g3, t3, cs3, f3, p3, q3, hg3, ht3, hv3, hd3, ⟨g4, t4, cs4, f4, p4, q4, hg4, ht4, hv4, hd4, _, _⟩, _⟩, _⟩, _⟩, _⟩, _, _⟩ := h
  obtain rfl := Option.some.inj (gSigns.symm.trans hg0)
  obtain rfl := Option.some.inj (gBars.symm.trans hg1)
  obtain rfl := Option.some.inj (gAlways.symm.trans hg2)
  obtain rfl := Option.some.inj (gLens.symm.trans hg3)
  obtain rfl := Option.some.inj (gRules.symm.trans hg4)
  obtain rfl := Option.some.inj (tSigns.symm.trans ht0)
  obtain rfl := Option.some.inj (tBars.symm.trans ht1)
  obtain rfl := Option.some.inj (tAlways.symm.trans ht2)
  obtain rfl := Option.some.inj (tLens.symm.trans ht3)
  obtain rfl := Option.some.inj (tRules.symm.trans ht4)
  have hc2 := two_of_trod (b0 := boolS) (b1 := intS) hd2
  subst hc2
  have h0 := World.var?_cell gAlways hv2 0
  have hc3 := lens_of_trod hd3
  have cell3 : ∀ k v, Tm.lensL[k]? = some v → W.cell? ⟨0, k, none⟩ = some (.int .i8 v) := fun k v hk => (World.var?_cell gLens hv3 k).trans (hc3 k v hk)
  have hc4 := rules_of_trod hd4
  have cell4 : ∀ k r, Tm.rulesL[k]? = some r → ∀ j v, ([.int .i64 r.many, .int .i64 r.a0, .int .i64 r.a1, .int .i64 r.a2, .int .i64 r.sort] : List Value)[j]? = some v → W.cell? ⟨1, k * 5 + j, none⟩ = some v := fun k r hk j v hj => (World.var?_cell gRules hv4 (k * 5 + j)).trans (hc4 k r hk j v hj)
  exact ⟨⟨⟨g4_of gSigns hv0 (set_of_trod hd0), g4_of gBars hv1 (set_of_trod hd1)⟩, World.block_lt_of_cell? (a := ⟨_, 0, none⟩) W h0, h0, World.var?_cell gAlways hv2 1⟩,
    ⟨World.block_lt_of_cell? (a := ⟨_, 0, none⟩) W (cell3 0 0 rfl), cell3⟩,
    ⟨World.block_lt_of_cell? (a := ⟨_, 0, none⟩) W (cell4 0 ⟨0, 0, 0, 0, 0⟩ rfl 0 _ rfl), fun k r hk => ⟨cell4 k r hk 0 _ rfl, cell4 k r hk 1 _ rfl, cell4 k r hk 2 _ rfl, cell4 k r hk 3 _ rfl, cell4 k r hk 4 _ rfl⟩⟩⟩
end Go.Proofs.YtbddghcdibdloaaGreatDoor
