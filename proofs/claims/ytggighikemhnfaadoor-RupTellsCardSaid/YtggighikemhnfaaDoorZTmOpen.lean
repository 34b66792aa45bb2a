/- Arguments that are tables, nodes and rows of places, opened. -/
import Derived.Test.YtggighikemhnfaaDoorZClC
import Derived.SizedLaws
import Derived.ChangeArms
import Derived.OpenShut
namespace Go.Proofs.YtggighikemhnfaaDoor.Tm
open Go.RowKit
set_option linter.unusedVariables false
/-- Small integers lie in a slice. -/
structure I8sR (w : World) (vs : List Int) (a : Option Addr) (c : Nat) : Prop where
  le : vs.length ≤ c
  cap : c ≤ maxLen
  tat : At w w.heap.size (vs.map (Value.int .i8)) a
theorem spot_none {w : World} {a : Addr} {v : Value} (h : w.cell? a = some v) : a = ⟨a.block, a.off, none⟩ ∧ a.block < w.heap.size := by
  unfold World.cell? at h
  split at h
  · rename_i c ty fr hc
    split at h
    · cases h
    · rename_i hs
      refine ⟨?_, (Array.getElem?_eq_some_iff.1 hc).1⟩
      obtain ⟨b, o, s⟩ := a
      cases s with
      | none => rfl
      | some x => simp at hs
  · cases h
theorem add_add {a : Addr} (hsp : a = ⟨a.block, a.off, none⟩) (i j : Nat) : (a.add i).add j = ⟨a.block, a.off + (i + j), none⟩ := by
  rw [hsp]
  unfold Addr.add
  by_cases h : i = 0 <;> by_cases h' : j = 0 <;> simp [h, h', Nat.add_assoc]
theorem rows_open {α : Type} {f : α → List Value} {n : Nat} (hn0 : 0 < n) (hn : ∀ x, (f x).length = n) {Q : α → Prop} {W : World} {a : Addr} {len : Nat} (h : ∀ i, i < len → ∃ x, W.cells? 0 (a.add (i * n)) n = some (f x) ∧ Q x) :
    ∃ l : List α, l.length = len ∧ (∀ y ∈ l, Q y) ∧ At W W.heap.size (l.flatMap f) (some a) := by
  obtain ⟨l, hl, hg⟩ : ∃ l : List α, l.length = len ∧ ∀ i y, l[i]? = some y → W.cells? 0 (a.add (i * n)) n = some (f y) ∧ Q y := by
    induction len with
    | zero => exact ⟨[], rfl, fun i y hy => by simp at hy⟩
    | succ k ih =>
      obtain ⟨l, hl, hg⟩ := ih (fun i hi => h i (by omega))
      obtain ⟨x, hx⟩ := h k (by omega)
      refine ⟨l ++ [x], by simp [hl], fun i y hy => ?_⟩
      by_cases hi : i < l.length
      · rw [List.getElem?_append_left hi] at hy
        exact hg i y hy
      · have hi2 : i = k := by
          have := (List.getElem?_eq_some_iff.1 hy).1
          simp at this
          omega
        subst hi2
        rw [List.getElem?_append_right (by omega), hl] at hy
        simp at hy
        subst hy
        exact hx
  refine ⟨l, hl, fun y hy => ?_, fun h0 => ?_⟩
  · obtain ⟨i, hi⟩ := List.getElem?_of_mem hy
    exact (hg i y hi).2
  · rw [len_flat hn] at h0
    have hl0 : 0 < l.length := Nat.pos_of_mul_pos_right h0
    obtain ⟨y0, hy0⟩ : ∃ y, l[0]? = some y := ⟨_, List.getElem?_eq_getElem hl0⟩
    obtain ⟨_, _, hc⟩ := World.cells?_some (hg 0 y0 hy0).1
    have q := hc 0 hn0
    obtain ⟨v0, hv0⟩ : ∃ v, (f y0)[0]? = some v := ⟨_, List.getElem?_eq_getElem (by rw [hn]; exact hn0)⟩
    rw [hv0] at q
    have e00 : (a.add (0 * n)).add 0 = a := by simp [Addr.add]
    rw [e00] at q
    obtain ⟨hsp, hab⟩ := spot_none q
    refine ⟨a.block, a.off, by rw [← hsp], hab, fun i v hv => ?_⟩
    have hi : i < l.length * n := by have := (List.getElem?_eq_some_iff.1 hv).1; rwa [len_flat hn] at this
    have hq : i / n < l.length := Nat.div_lt_of_lt_mul (by rw [Nat.mul_comm]; exact hi)
    have hr : i % n < n := Nat.mod_lt _ hn0
    obtain ⟨y, hy⟩ : ∃ y, l[i / n]? = some y := ⟨_, List.getElem?_eq_getElem hq⟩
    have hs : i / n * n + i % n = i := by rw [Nat.mul_comm]; exact Nat.div_add_mod i n
    have e := get_flat hn l (i / n) (i % n) y hy hr
    rw [hs] at e
    obtain ⟨_, _, hc'⟩ := World.cells?_some (hg (i / n) y hy).1
    have q' := hc' (i % n) hr
    rw [add_add hsp, hs] at q'
    rw [q', ← e]
    exact hv
theorem cInt : Tryd.prog.cellsOf 3 = 1 := by kernel_rfl
theorem i64_wf {x : Int} (h : (Lit.int .i64 x).wf = true) : I64 x := by
  have := bounds_i64 h
  exact ⟨by omega, by omega⟩
section
variable {H : Type} {enc : TypeId × Value → H} {W : World} {sp : Nat → Bool} {held : Bool}
/-- A slice of what opens. -/
theorem open_row {α : Type} {f : α → List Value} {n : Nat} (hn0 : 0 < n) (hn : ∀ x, (f x).length = n) {Q : α → Prop} {t e : TypeId} (hu : Tryd.prog.underlying t = some (.slice e)) (hc : Tryd.prog.cellsOf e = n)
    (ho : ∀ (fuel : Nat) (cs : List Value) (x : DataW H × List MemPlace), DataW.trod enc Tryd.prog W 0 sp held fuel e cs = some x → ∃ y, cs = f y ∧ Q y)
    {fuel : Nat} {c : Value} {x : DataW H × List MemPlace} (h : DataW.trod enc Tryd.prog W 0 sp held fuel t [c] = some x) :
    ∃ (l : List α) (a : Option Addr) (cap : Nat), c = .slice a l.length cap ∧ l.length ≤ cap ∧ cap ≤ maxLen ∧ At W W.heap.size (l.flatMap f) a ∧ ∀ y ∈ l, Q y := by
  rcases DataW.trod_slice hu h with ⟨e2, _⟩ | ⟨a, len, cap, elems, rest, m, rfl, e2, hx2, _, hlc, hcm, hel, hi, _, _⟩
  · simp only [List.cons.injEq, and_true] at e2
    exact ⟨[], none, 0, e2, Nat.le_refl _, Nat.zero_le _, fun h => absurd h (by simp), fun _ h => by simp at h⟩
  · simp only [List.cons.injEq, and_true] at e2
    subst e2
    rw [hc] at hi
    obtain ⟨l, hl, hq, hat⟩ := rows_open (f := f) (Q := Q) (W := W) (a := a) (len := len) hn0 hn (fun i hil => by
      have hh := hi i hil
      obtain ⟨z, hz⟩ : ∃ z, elems[i]? = some z := ⟨_, List.getElem?_eq_getElem (by omega)⟩
      rw [hz] at hh
      obtain ⟨cs', hc', ht'⟩ := Option.bind_eq_some_iff.1 hh
      obtain ⟨y, rfl, hy⟩ := ho m cs' z ht'
      exact ⟨y, hc', hy⟩)
    exact ⟨l, some a, cap, by rw [hl], by omega, hcm, hat, hq⟩
theorem flat_one (l : List Int) : l.flatMap (fun x => [Value.int .i64 x]) = l.map (Value.int .i64) := by
  induction l with
  | nil => rfl
  | cons x r ih => simp only [List.flatMap_cons, List.map_cons, ih]; rfl
theorem flat_oneB (l : List Bool) : l.flatMap (fun x => [Value.bool x]) = l.map Value.bool := by
  induction l with
  | nil => rfl
  | cons x r ih => simp only [List.flatMap_cons, List.map_cons, ih]; rfl
/-- All that is weighed is no more than memory has. -/
def WB (t : TypeId) (d : DataW H) : Prop := ∀ n ∈ d.weights Tryd.prog t, n ≤ reachBytes
theorem wb_len {t e : TypeId} {es sp : List (DataW H)} (hu : Tryd.prog.underlying t = some (.slice e)) (h : WB t (.slice es sp)) : (es.length + sp.length) * Tryd.prog.bytesOf e ≤ reachBytes := h _ (by
  simp only [DataW.weights, hu, List.mem_cons, true_or])
theorem bInt : Tryd.prog.bytesOf 3 = 8 := by kernel_rfl
theorem open_ints {fuel : Nat} {c : Value} {x : DataW H × List MemPlace} (h : DataW.trod enc Tryd.prog W 0 sp held fuel 23 [c] = some x) : ∃ (l : List Int) (a : Option Addr) (cap : Nat), c = .slice a l.length cap ∧ IntsR W l a cap ∧ (WB 23 x.1 → l.length ≤ 17592186043904) := by
  obtain ⟨l, a, cap, rfl, q1, q2, q3, q4⟩ := open_row (f := fun x => [Value.int .i64 x]) (n := 1) (Q := I64) (by decide) (fun _ => rfl) Tryd.underlying23 cInt (fun fuel cs x h => by
    obtain ⟨n, e, _, hw⟩ := DataW.trod_int Tryd.underlying3 h
    exact ⟨n, e, i64_wf hw⟩) h
  rw [flat_one] at q3
  refine ⟨l, a, cap, rfl, ⟨q1, q2, q3, q4⟩, fun hB => ?_⟩
  rcases DataW.trod_slice Tryd.underlying23 h with ⟨e2, _⟩ | ⟨a', len, cap', elems, rest, m, _, e2, hx2, _, _, _, hel, _, _, _⟩
  · simp only [List.cons.injEq, and_true] at e2
    cases l with
    | nil => simp
    | cons y r => simp at e2
  · simp only [List.cons.injEq, and_true] at e2
    rw [hx2] at hB
    have := wb_len Tryd.underlying23 hB
    rw [bInt] at this
    simp only [List.length_map, reachBytes] at this
    have hll : l.length = len := by cases e2; rfl
    omega
theorem cBool : Tryd.prog.cellsOf 4 = 1 := by kernel_rfl
theorem flat_row (l : List RowD) : l.flatMap (fun r => [rowV r]) = l.map rowV := by
  induction l with
  | nil => rfl
  | cons x r ih => simp only [List.flatMap_cons, List.map_cons, ih]; rfl
theorem cInts : Tryd.prog.cellsOf 23 = 1 := by kernel_rfl
theorem open_rows {fuel : Nat} {c : Value} {x : DataW H × List MemPlace} (h : DataW.trod enc Tryd.prog W 0 sp held fuel 22 [c] = some x) : ∃ (l : List RowD) (a : Option Addr) (cap : Nat), c = .slice a l.length cap ∧ RowsR W l a cap ∧ True := by
  obtain ⟨l, a, cap, rfl, q1, q2, q3, q4⟩ := open_row (f := fun r : RowD => [rowV r]) (n := 1) (Q := fun r : RowD => IntsR W r.xs r.a r.c) (by decide) (fun _ => rfl) Tryd.underlying22 cInts (fun fuel cs x h => by
    obtain ⟨v, rfl⟩ : ∃ v, cs = [v] := by
      rcases DataW.trod_slice Tryd.underlying23 h with ⟨e, _⟩ | ⟨a, len, cap, elems, rest, m, e, e2, _⟩
      · exact ⟨_, e⟩
      · exact ⟨_, e2⟩
    obtain ⟨xs, a, cap, rfl, h1, _⟩ := open_ints h
    exact ⟨⟨xs, a, cap⟩, rfl, h1⟩) h
  rw [flat_row] at q3
  exact ⟨l, a, cap, rfl, ⟨q1, q2, q3, q4⟩, trivial⟩
theorem flat_one8 (l : List Int) : l.flatMap (fun x => [Value.int .i8 x]) = l.map (Value.int .i8) := by
  induction l with
  | nil => rfl
  | cons x r ih => simp only [List.flatMap_cons, List.map_cons, ih]; rfl
theorem cInt8 : Tryd.prog.cellsOf 31 = 1 := by kernel_rfl
theorem open_int8s {fuel : Nat} {c : Value} {x : DataW H × List MemPlace} (h : DataW.trod enc Tryd.prog W 0 sp held fuel 29 [c] = some x) : ∃ (l : List Int) (a : Option Addr) (cap : Nat), c = .slice a l.length cap ∧ I8sR W l a cap ∧ True := by
  obtain ⟨l, a, cap, rfl, q1, q2, q3, q4⟩ := open_row (f := fun x => [Value.int .i8 x]) (n := 1) (Q := fun _ => True) (by decide) (fun _ => rfl) Tryd.underlying29 cInt8 (fun fuel cs x h => by
    obtain ⟨n, e, _, hw⟩ := DataW.trod_int Tryd.underlying31 h
    exact ⟨n, e, trivial⟩) h
  rw [flat_one8] at q3
  exact ⟨l, a, cap, rfl, ⟨q1, q2, q3⟩, trivial⟩
theorem open_bools {fuel : Nat} {c : Value} {x : DataW H × List MemPlace} (h : DataW.trod enc Tryd.prog W 0 sp held fuel 40 [c] = some x) : ∃ (l : List Bool) (a : Option Addr) (cap : Nat), c = .slice a l.length cap ∧ BoolsR W l a cap ∧ True := by
  obtain ⟨l, a, cap, rfl, q1, q2, q3, q4⟩ := open_row (f := fun x => [Value.bool x]) (n := 1) (Q := fun _ => True) (by decide) (fun _ => rfl) Tryd.underlying40 cBool (fun fuel cs x h => by
    obtain ⟨n, e, _⟩ := DataW.trod_bool Tryd.underlying4 h
    exact ⟨n, e, trivial⟩) h
  rw [flat_oneB] at q3
  exact ⟨l, a, cap, rfl, ⟨q1, q2, q3⟩, trivial⟩
end
end Go.Proofs.YtggighikemhnfaaDoor.Tm
