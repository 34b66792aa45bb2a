/- An argument that is an expression, opened: it reads as a tree. -/
import Derived.Test.YtinogambkfihpaaDoorSexRd
import Derived.Deep.Slices
import Derived.ChangeArms
import Derived.OpenShut
namespace Go.Proofs.YtinogambkfihpaaDoor
open Go.RowKit
set_option linter.unusedVariables false
theorem cSexp : Tryd.prog.cellsOf 51 = 3 := by kernel_rfl
theorem cI8 : Tryd.prog.cellsOf 48 = 1 := by kernel_rfl
theorem cStr : Tryd.prog.cellsOf 9 = 1 := by kernel_rfl
theorem cSl : Tryd.prog.cellsOf 49 = 1 := by kernel_rfl
theorem cells3 {w : World} {a : Addr} {cs : List Value} (h : w.cells? 0 a 3 = some cs) : ∃ v0 v1 v2, cs = [v0, v1, v2] ∧ w.cell? (a.add 0) = some v0 ∧ w.cell? (a.add 1) = some v1 ∧ w.cell? (a.add 2) = some v2 := by
  unfold World.cells? at h
  rw [if_pos (Nat.zero_le _)] at h
  have e : List.range 3 = [0, 1, 2] := rfl
  rw [e] at h
  simp only [List.mapM_cons, List.mapM_nil, Option.bind_eq_bind, Option.bind_eq_some_iff, Option.pure_def, Option.some.injEq] at h
  obtain ⟨v0, h0, _, ⟨v1, h1, _, ⟨v2, h2, _, rfl, rfl⟩, rfl⟩, rfl⟩ := h
  exact ⟨v0, v1, v2, rfl, h0, h1, h2⟩
theorem spot_none {w : World} {a : Addr} {v : Value} (h : w.cell? a = some v) : a = ⟨a.block, a.off, none⟩ ∧ a.block < w.heap.size := by
  unfold World.cell? at h
  split at h
  · rename_i c ty fr hc
    split at h
    · cases h
    · rename_i hs
      refine ⟨?_, (Array.getElem?_eq_some_iff.1 hc).1⟩
      obtain ⟨b, o, s⟩ := a
      cases s with
      | none => rfl
      | some x => simp at hs
  · cases h
/-- A row of trees, put together. -/
theorem build_rdl {w : World} {bad : Nat → Prop} {g : Nat} (hg : ¬ bad g) : ∀ (n o : Nat), (∀ i, i < n → ∃ t v0 v1 v2, w.frozen? ⟨g, o + i * 3, none⟩ = false ∧ w.cell? ⟨g, o + i * 3, none⟩ = some v0 ∧ w.cell? ⟨g, o + i * 3 + 1, none⟩ = some v1 ∧ w.cell? ⟨g, o + i * 3 + 1 + 1, none⟩ = some v2 ∧ Rd w bad t (.agg #[v0, v1, v2])) →
    ∃ l : List Tree, l.length = n ∧ RdL w bad l (some ⟨g, o, none⟩)
  | 0, o, _ => ⟨[], rfl, trivial⟩
  | n + 1, o, h => by
    obtain ⟨t, v0, v1, v2, hf, c0, c1, c2, hr⟩ := h 0 (by omega)
    obtain ⟨l, hl, hrl⟩ := build_rdl hg n (o + 3) (fun i hi => by
      have := h (i + 1) (by omega)
      rw [show o + (i + 1) * 3 = o + 3 + i * 3 by omega] at this
      exact this)
    simp only [Nat.zero_mul, Nat.add_zero] at hf c0 c1 c2
    exact ⟨t :: l, by simp [hl], g, o, v0, v1, v2, rfl, hg, hf, c0, c1, c2, hr, hrl⟩
theorem open_sx {H : Type} {enc : TypeId × Value → H} {W : World} {sp : Nat → Bool} {held : Bool} : ∀ (fuel : Nat) (cs : List Value) (x : DataW H × List MemPlace), DataW.trod enc Tryd.prog W 0 sp held fuel 51 cs = some x → W.noneFrozen x.2 →
    ∃ (t : Tree) (c0 c1 c2 : Value), cs = [c0, c1, c2] ∧ Rd W (fun b => W.heap.size ≤ b) t (.agg #[c0, c1, c2]) := by
  intro fuel
  induction fuel using Nat.strongRecOn with
  | _ fuel ih =>
    intro cs x h hfz
    obtain ⟨xs, n, rfl, rfl, hlen, hxs, hf⟩ := DataW.trod_struct Tryd.underlying51 h
    rw [cSexp] at hlen
    obtain ⟨c0, c1, c2, rfl⟩ : ∃ c0 c1 c2, cs = [c0, c1, c2] := by
      clear h hf ih hfz
      match cs, hlen with
      | [a, b, c], _ => exact ⟨a, b, c, rfl⟩
    obtain ⟨y0, y1, y2, rfl⟩ : ∃ a b c, xs = [a, b, c] := by
      have h3 : xs.length = 3 := hxs
      clear h hf ih hfz hxs
      match xs, h3 with
      | [a, b, c], _ => exact ⟨a, b, c, rfl⟩
    have h0 := hf 0 ({ name := "Kind", type := 48, offset := 0, embedded := false, tag := "", pkgPath := "", byteOffset := 0 }) rfl
    have h1 := hf 1 ({ name := "Text", type := 9, offset := 1, embedded := false, tag := "", pkgPath := "", byteOffset := 8 }) rfl
    have h2 := hf 2 ({ name := "L", type := 49, offset := 2, embedded := false, tag := "", pkgPath := "", byteOffset := 24 }) rfl
    simp only [cI8, cStr, cSl, List.drop_zero, List.take_succ_cons, List.take_zero, List.drop_succ_cons, List.getElem?_cons_zero, List.getElem?_cons_succ] at h0 h1 h2
    obtain ⟨k, e0, _, _⟩ := DataW.trod_int Tryd.underlying48 h0
    obtain ⟨s, e1, _, hs⟩ := DataW.trod_string Tryd.underlying9 h1
    simp only [List.cons.injEq, and_true] at e0 e1
    subst e0 e1
    have hsl : (s.data.toList).length ≤ maxLen := by simpa using hs
    have hse : bytesL s.data.toList = s := bytesL_self s
    rcases DataW.trod_slice Tryd.underlying49 h2 with ⟨e2, _⟩ | ⟨a, len, cap, elems, rest, m, rfl, e2, hx2, _, hlc, hcm, hel, hi, _, _⟩
    · simp only [List.cons.injEq, and_true] at e2
      subst e2
      exact ⟨.node k s.data.toList [], _, _, _, rfl, none, 0, by rw [hse]; rfl, by simp, by simp, hsl, trivial⟩
    · simp only [List.cons.injEq, and_true] at e2
      subst e2
      have hfz2 : W.noneFrozen y2.2 := fun b off hb => hfz b off (by simp [hb])
      rw [hx2] at hfz2
      rw [cSexp] at hi hfz2
      by_cases hl0 : len = 0
      · subst hl0
        exact ⟨.node k s.data.toList [], _, _, _, rfl, some a, cap, by rw [hse]; rfl, by simp, hcm, hsl, trivial⟩
      · have h00 := hi 0 (by omega)
        obtain ⟨z, hz⟩ : ∃ z, elems[0]? = some z := ⟨_, List.getElem?_eq_getElem (by omega)⟩
        rw [hz] at h00
        obtain ⟨cs', hc', _⟩ := Option.bind_eq_some_iff.1 h00
        obtain ⟨w0, _, _, _, q0, _, _⟩ := cells3 hc'
        have e00 : (a.add (0 * 3)).add 0 = a := by simp [Addr.add]
        rw [e00] at q0
        obtain ⟨hsp, hab⟩ := spot_none q0
        have hall : ∀ i, i < len → ∃ t v0 v1 v2, W.frozen? ⟨a.block, a.off + i * 3, none⟩ = false ∧ W.cell? ⟨a.block, a.off + i * 3, none⟩ = some v0 ∧ W.cell? ⟨a.block, a.off + i * 3 + 1, none⟩ = some v1 ∧ W.cell? ⟨a.block, a.off + i * 3 + 1 + 1, none⟩ = some v2 ∧ Rd W (fun b => W.heap.size ≤ b) t (.agg #[v0, v1, v2]) := fun i hil => by
          have hh := hi i hil
          obtain ⟨z, hz⟩ : ∃ z, elems[i]? = some z := ⟨_, List.getElem?_eq_getElem (by omega)⟩
          rw [hz] at hh
          obtain ⟨cs', hc', ht'⟩ := Option.bind_eq_some_iff.1 hh
          have hzm : z ∈ elems := List.mem_of_getElem? hz
          obtain ⟨t, v0, v1, v2, rfl, hr⟩ := ih m (by omega) cs' z ht' (fun b off hb => hfz2 b off (List.mem_append_right _ (List.mem_flatMap.2 ⟨z, List.mem_append_left _ hzm, hb⟩)))
          obtain ⟨w0, w1, w2, e, q0, q1, q2⟩ := cells3 hc'
          simp only [List.cons.injEq, and_true] at e
          obtain ⟨rfl, rfl, rfl⟩ := e
          have hadd : ∀ j, (a.add (i * 3)).add j = ⟨a.block, a.off + i * 3 + j, none⟩ := fun j => by
            rw [hsp]
            unfold Addr.add
            by_cases h : i * 3 = 0 <;> by_cases h' : j = 0 <;> simp [h, h', Nat.add_assoc]
          rw [hadd] at q0 q1 q2
          refine ⟨t, _, _, _, hfz2 _ _ (List.mem_append_left _ ?_), q0, q1, q2, hr⟩
          unfold MemPlace.row
          refine List.mem_map.2 ⟨i * 3, List.mem_range.2 ?_, rfl⟩
          have : (i + 1) * 3 ≤ (elems.length + rest.length) * 3 := Nat.mul_le_mul_right _ (by omega)
          omega
        obtain ⟨l, hl, hrl⟩ := build_rdl (w := W) (bad := fun b => W.heap.size ≤ b) (g := a.block) (by omega) len a.off (fun i hi' => by
          exact hall i hi')
        refine ⟨.node k s.data.toList l, _, _, _, rfl, some a, cap, by rw [hse, hl], by omega, hcm, hsl, ?_⟩
        rw [hsp]
        exact hrl
end Go.Proofs.YtinogambkfihpaaDoor
