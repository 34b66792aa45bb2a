/- Arguments that are rows of acts, opened. -/
import Derived.Test.YtmgppnepccmceaaHpT
import Derived.ChangeArms
import Derived.OpenShut
namespace Go.Proofs.Ytmgppnepccmceaa
open Go.RowKit
set_option linter.unusedVariables false
theorem spot_none {w : World} {a : Addr} {v : Value} (h : w.cell? a = some v) : a = ⟨a.block, a.off, none⟩ ∧ a.block < w.heap.size := by
  unfold World.cell? at h
  split at h
  · rename_i c ty fr hc
    split at h
    · cases h
    · rename_i hs
      refine ⟨?_, (Array.getElem?_eq_some_iff.1 hc).1⟩
      obtain ⟨b, o, s⟩ := a
      cases s with
      | none => rfl
      | some x => simp at hs
  · cases h
theorem add_add {a : Addr} (hsp : a = ⟨a.block, a.off, none⟩) (i j : Nat) : (a.add i).add j = ⟨a.block, a.off + (i + j), none⟩ := by
  rw [hsp]
  unfold Addr.add
  by_cases h : i = 0 <;> by_cases h' : j = 0 <;> simp [h, h', Nat.add_assoc]
theorem rows_open {α : Type} {f : α → List Value} {n : Nat} (hn0 : 0 < n) (hn : ∀ x, (f x).length = n) {Q : α → Prop} {W : World} {a : Addr} {len : Nat} (h : ∀ i, i < len → ∃ x, W.cells? 0 (a.add (i * n)) n = some (f x) ∧ Q x) :
    ∃ l : List α, l.length = len ∧ (∀ y ∈ l, Q y) ∧ At W W.heap.size (l.flatMap f) (some a) := by
  obtain ⟨l, hl, hg⟩ : ∃ l : List α, l.length = len ∧ ∀ i y, l[i]? = some y → W.cells? 0 (a.add (i * n)) n = some (f y) ∧ Q y := by
    induction len with
    | zero => exact ⟨[], rfl, fun i y hy => by simp at hy⟩
    | succ k ih =>
      obtain ⟨l, hl, hg⟩ := ih (fun i hi => h i (by omega))
      obtain ⟨x, hx⟩ := h k (by omega)
      refine ⟨l ++ [x], by simp [hl], fun i y hy => ?_⟩
      by_cases hi : i < l.length
      · rw [List.getElem?_append_left hi] at hy
        exact hg i y hy
      · have hi2 : i = k := by
          have := (List.getElem?_eq_some_iff.1 hy).1
          simp at this
          omega
        subst hi2
        rw [List.getElem?_append_right (by omega), hl] at hy
        simp at hy
        subst hy
        exact hx
  refine ⟨l, hl, fun y hy => ?_, fun h0 => ?_⟩
  · obtain ⟨i, hi⟩ := List.getElem?_of_mem hy
    exact (hg i y hi).2
  · rw [len_flat hn] at h0
    have hl0 : 0 < l.length := Nat.pos_of_mul_pos_right h0
    obtain ⟨y0, hy0⟩ : ∃ y, l[0]? = some y := ⟨_, List.getElem?_eq_getElem hl0⟩
    obtain ⟨_, _, hc⟩ := World.cells?_some (hg 0 y0 hy0).1
    have q := hc 0 hn0
    obtain ⟨v0, hv0⟩ : ∃ v, (f y0)[0]? = some v := ⟨_, List.getElem?_eq_getElem (by rw [hn]; exact hn0)⟩
    rw [hv0] at q
    have e00 : (a.add (0 * n)).add 0 = a := by simp [Addr.add]
    rw [e00] at q
    obtain ⟨hsp, hab⟩ := spot_none q
    refine ⟨a.block, a.off, by rw [← hsp], hab, fun i v hv => ?_⟩
    have hi : i < l.length * n := by have := (List.getElem?_eq_some_iff.1 hv).1; rwa [len_flat hn] at this
    have hq : i / n < l.length := Nat.div_lt_of_lt_mul (by rw [Nat.mul_comm]; exact hi)
    have hr : i % n < n := Nat.mod_lt _ hn0
    obtain ⟨y, hy⟩ : ∃ y, l[i / n]? = some y := ⟨_, List.getElem?_eq_getElem hq⟩
    have hs : i / n * n + i % n = i := by rw [Nat.mul_comm]; exact Nat.div_add_mod i n
    have e := get_flat hn l (i / n) (i % n) y hy hr
    rw [hs] at e
    obtain ⟨_, _, hc'⟩ := World.cells?_some (hg (i / n) y hy).1
    have q' := hc' (i % n) hr
    rw [add_add hsp, hs] at q'
    rw [q', ← e]
    exact hv
theorem cInt : Try.prog.cellsOf 3 = 1 := by kernel_rfl
theorem cAct : Try.prog.cellsOf 29 = 3 := by kernel_rfl
theorem i64_wf {x : Int} (h : (Lit.int .i64 x).wf = true) : I64 x := by
  have := bounds_i64 h
  exact ⟨by omega, by omega⟩
theorem list3 {α : Type} {l : List α} (h : l.length = 3) : ∃ a b c, l = [a, b, c] := by
  match l, h with
  | [a, b, c], _ => exact ⟨a, b, c, rfl⟩
section
variable {H : Type} {enc : TypeId × Value → H} {W : World} {sp : Nat → Bool} {held : Bool}
theorem open_int1 {fuel : Nat} {c : Value} {x : DataW H × List MemPlace} (h : DataW.trod enc Try.prog W 0 sp held fuel 3 [c] = some x) : ∃ n, c = .int .i64 n ∧ I64 n := by
  obtain ⟨n, e, _, hw⟩ := DataW.trod_int Try.underlying3 h
  simp only [List.cons.injEq, and_true] at e
  exact ⟨n, e, i64_wf hw⟩
theorem open_act {fuel : Nat} {cs : List Value} {x : DataW H × List MemPlace} (h : DataW.trod enc Try.prog W 0 sp held fuel 29 cs = some x) : ∃ n : ActA, cs = actC n ∧ True := by
  obtain ⟨xs, n, rfl, rfl, hlen, hxs, hf⟩ := DataW.trod_struct Try.underlying29 h
  rw [cAct] at hlen
  clear h
  obtain ⟨c0, c1, c2, rfl⟩ := list3 hlen
  obtain ⟨y0, y1, y2, rfl⟩ := list3 (show xs.length = 3 from hxs)
  have h0 := hf 0 ({ name := "Do", type := 3, offset := 0, embedded := false, tag := "", pkgPath := "", byteOffset := 0 }) rfl
  have h1 := hf 1 ({ name := "Node", type := 3, offset := 1, embedded := false, tag := "", pkgPath := "", byteOffset := 8 }) rfl
  have h2 := hf 2 ({ name := "By", type := 3, offset := 2, embedded := false, tag := "", pkgPath := "", byteOffset := 16 }) rfl
  simp only [cInt, List.drop_zero, List.take_succ_cons, List.take_zero, List.drop_succ_cons, List.getElem?_cons_zero, List.getElem?_cons_succ] at h0 h1 h2
  obtain ⟨n0, rfl, _⟩ := open_int1 h0
  obtain ⟨n1, rfl, _⟩ := open_int1 h1
  obtain ⟨n2, rfl, _⟩ := open_int1 h2
  exact ⟨⟨n0, n1, n2⟩, rfl, trivial⟩
/-- A slice of what opens. -/
theorem open_row {α : Type} {f : α → List Value} {n : Nat} (hn0 : 0 < n) (hn : ∀ x, (f x).length = n) {Q : α → Prop} {t e : TypeId} (hu : Try.prog.underlying t = some (.slice e)) (hc : Try.prog.cellsOf e = n)
    (ho : ∀ (fuel : Nat) (cs : List Value) (x : DataW H × List MemPlace), DataW.trod enc Try.prog W 0 sp held fuel e cs = some x → ∃ y, cs = f y ∧ Q y)
    {fuel : Nat} {c : Value} {x : DataW H × List MemPlace} (h : DataW.trod enc Try.prog W 0 sp held fuel t [c] = some x) :
    ∃ (l : List α) (a : Option Addr) (cap : Nat), c = .slice a l.length cap ∧ l.length ≤ cap ∧ cap ≤ maxLen ∧ At W W.heap.size (l.flatMap f) a ∧ ∀ y ∈ l, Q y := by
  rcases DataW.trod_slice hu h with ⟨e2, _⟩ | ⟨a, len, cap, elems, rest, m, rfl, e2, hx2, _, hlc, hcm, hel, hi, _, _⟩
  · simp only [List.cons.injEq, and_true] at e2
    exact ⟨[], none, 0, e2, Nat.le_refl _, Nat.zero_le _, fun h => absurd h (by simp), fun _ h => by simp at h⟩
  · simp only [List.cons.injEq, and_true] at e2
    subst e2
    rw [hc] at hi
    obtain ⟨l, hl, hq, hat⟩ := rows_open (f := f) (Q := Q) (W := W) (a := a) (len := len) hn0 hn (fun i hil => by
      have hh := hi i hil
      obtain ⟨z, hz⟩ : ∃ z, elems[i]? = some z := ⟨_, List.getElem?_eq_getElem (by omega)⟩
      rw [hz] at hh
      obtain ⟨cs', hc', ht'⟩ := Option.bind_eq_some_iff.1 hh
      obtain ⟨y, rfl, hy⟩ := ho m cs' z ht'
      exact ⟨y, hc', hy⟩)
    exact ⟨l, some a, cap, by rw [hl], by omega, hcm, hat, hq⟩
theorem open_acts {fuel : Nat} {c : Value} {x : DataW H × List MemPlace} (h : DataW.trod enc Try.prog W 0 sp held fuel 22 [c] = some x) : ∃ (l : List ActA) (a : Option Addr) (cap : Nat), c = .slice a l.length cap ∧ ActsR W l a cap := by
  obtain ⟨l, a, cap, rfl, q1, q2, q3, _⟩ := open_row (f := actC) (n := 3) (Q := fun _ => True) (by decide) (fun _ => rfl) Try.underlying22 cAct (fun fuel cs x h => open_act h) h
  exact ⟨l, a, cap, rfl, q1, q2, q3⟩
end
end Go.Proofs.Ytmgppnepccmceaa
