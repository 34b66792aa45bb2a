/- Arguments that are signatures and functions, opened. -/
import Derived.Test.YtinogambkfihpaaDoorSgA
import Derived.Test.YtinogambkfihpaaDoorSexOp
import Derived.SizedLaws
namespace Go.Proofs.YtinogambkfihpaaDoor
open Go.RowKit
set_option linter.unusedVariables false
def RowsT : Tree → Prop
  | .node _ _ l => l.length * 48 ≤ 140737488355328 ∧ ∀ t, t ∈ l → RowsT t
theorem RowsT.kids {t : Tree} (h : RowsT t) : t.kids.length * 48 ≤ 140737488355328 ∧ ∀ c ∈ t.kids, RowsT c := by
  cases t with
  | node k s l => unfold RowsT at h; exact h
/-- Blocks that lay before B, or that are no cells without a mark. -/
def newBad (B : Nat) (w : World) (b : Nat) : Prop := b < B ∨ ¬ ∃ cs ty, w.heap[b]? = some (.cells cs ty (0, 0))
def NewT (B : Nat) (w : World) (t : Tree) (v : Value) : Prop := Rd w (newBad B w) t v
def Rows_ok (x : SigA) : Prop := ∀ m ∈ x.macros, RowsT m.body
theorem add_add {a : Addr} (hsp : a = ⟨a.block, a.off, none⟩) (i j : Nat) : (a.add i).add j = ⟨a.block, a.off + (i + j), none⟩ := by
  rw [hsp]
  unfold Addr.add
  by_cases h : i = 0 <;> by_cases h' : j = 0 <;> simp [h, h', Nat.add_assoc]
theorem rows_open {α : Type} {f : α → List Value} {n : Nat} (hn0 : 0 < n) (hn : ∀ x, (f x).length = n) {Q : α → Prop} {W : World} {a : Addr} {len : Nat} (h : ∀ i, i < len → ∃ x, W.cells? 0 (a.add (i * n)) n = some (f x) ∧ Q x) :
    ∃ l : List α, l.length = len ∧ (∀ y ∈ l, Q y) ∧ At W W.heap.size (l.flatMap f) (some a) := by
  obtain ⟨l, hl, hg⟩ : ∃ l : List α, l.length = len ∧ ∀ i y, l[i]? = some y → W.cells? 0 (a.add (i * n)) n = some (f y) ∧ Q y := by
    induction len with
    | zero => exact ⟨[], rfl, fun i y hy => by simp at hy⟩
    | succ k ih =>
      obtain ⟨l, hl, hg⟩ := ih (fun i hi => h i (by omega))
      obtain ⟨x, hx⟩ := h k (by omega)
      refine ⟨l ++ [x], by simp [hl], fun i y hy => ?_⟩
      by_cases hi : i < l.length
      · rw [List.getElem?_append_left hi] at hy
        exact hg i y hy
      · have hi2 : i = k := by
          have := (List.getElem?_eq_some_iff.1 hy).1
          simp at this
          omega
        subst hi2
        rw [List.getElem?_append_right (by omega), hl] at hy
        simp at hy
        subst hy
        exact hx
  refine ⟨l, hl, fun y hy => ?_, fun h0 => ?_⟩
  · obtain ⟨i, hi⟩ := List.getElem?_of_mem hy
    exact (hg i y hi).2
  · rw [len_flat hn] at h0
    have hl0 : 0 < l.length := Nat.pos_of_mul_pos_right h0 
    obtain ⟨y0, hy0⟩ : ∃ y, l[0]? = some y := ⟨_, List.getElem?_eq_getElem hl0⟩
    obtain ⟨_, _, hc⟩ := World.cells?_some (hg 0 y0 hy0).1
    have q := hc 0 hn0
    obtain ⟨v0, hv0⟩ : ∃ v, (f y0)[0]? = some v := ⟨_, List.getElem?_eq_getElem (by rw [hn]; exact hn0)⟩
    rw [hv0] at q
    have e00 : (a.add (0 * n)).add 0 = a := by simp [Addr.add]
    rw [e00] at q
    obtain ⟨hsp, hab⟩ := spot_none q
    refine ⟨a.block, a.off, by rw [← hsp], hab, fun i v hv => ?_⟩
    have hi : i < l.length * n := by have := (List.getElem?_eq_some_iff.1 hv).1; rwa [len_flat hn] at this
    have hq : i / n < l.length := Nat.div_lt_of_lt_mul (by rw [Nat.mul_comm]; exact hi)
    have hr : i % n < n := Nat.mod_lt _ hn0
    obtain ⟨y, hy⟩ : ∃ y, l[i / n]? = some y := ⟨_, List.getElem?_eq_getElem hq⟩
    have hs : i / n * n + i % n = i := by rw [Nat.mul_comm]; exact Nat.div_add_mod i n
    have e := get_flat hn l (i / n) (i % n) y hy hr
    rw [hs] at e
    obtain ⟨_, _, hc'⟩ := World.cells?_some (hg (i / n) y hy).1
    have q' := hc' (i % n) hr
    rw [add_add hsp, hs] at q'
    rw [q', ← e]
    exact hv
/-- All that is weighed is no more than memory has. -/
def WB {H : Type} (t : TypeId) (d : DataW H) : Prop := ∀ n ∈ d.weights Tryd.prog t, n ≤ reachBytes
theorem wb_field {H : Type} {t tj : TypeId} {fs : Array Field} {ds : List (DataW H)} {d : DataW H} (hu : Tryd.prog.underlying t = some (.struct fs)) (h : WB t (.agg ds)) (j : Nat) (ht : (fs.toList.map (·.type))[j]? = some tj) (hd : ds[j]? = some d) : WB tj d := fun n hn => h n (by
  simp only [DataW.weights, hu]
  exact DataW.weights_mem_each ht hd n hn)
theorem weights_mem_all {H : Type} {P : Program} {e : TypeId} {d : DataW H} {n : Nat} (hn : n ∈ d.weights P e) : ∀ {l : List (DataW H)}, d ∈ l → n ∈ DataW.weightsAll P e l
  | y :: l, hd => by
    simp only [DataW.weightsAll, List.mem_append]
    rcases List.mem_cons.1 hd with rfl | hd
    · exact Or.inl hn
    · exact Or.inr (weights_mem_all hn hd)
theorem wb_elem {H : Type} {t e : TypeId} {es sp : List (DataW H)} {d : DataW H} (hu : Tryd.prog.underlying t = some (.slice e)) (h : WB t (.slice es sp)) (hd : d ∈ es) : WB e d := fun n hn => h n (by
  simp only [DataW.weights, hu, List.mem_cons, List.mem_append]
  exact Or.inr (Or.inl (weights_mem_all hn hd)))
theorem wb_len {H : Type} {t e : TypeId} {es sp : List (DataW H)} (hu : Tryd.prog.underlying t = some (.slice e)) (h : WB t (.slice es sp)) : (es.length + sp.length) * Tryd.prog.bytesOf e ≤ reachBytes := h _ (by
  simp only [DataW.weights, hu, List.mem_cons, true_or])
theorem bSexp : Tryd.prog.bytesOf 51 = 48 := by kernel_rfl
theorem build_rdl2 {w : World} {bad : Nat → Prop} {Q : Tree → Prop} {g : Nat} (hg : ¬ bad g) : ∀ (n o : Nat), (∀ i, i < n → ∃ t v0 v1 v2, w.frozen? ⟨g, o + i * 3, none⟩ = false ∧ w.cell? ⟨g, o + i * 3, none⟩ = some v0 ∧ w.cell? ⟨g, o + i * 3 + 1, none⟩ = some v1 ∧ w.cell? ⟨g, o + i * 3 + 1 + 1, none⟩ = some v2 ∧ Rd w bad t (.agg #[v0, v1, v2]) ∧ Q t) →
    ∃ l : List Tree, l.length = n ∧ RdL w bad l (some ⟨g, o, none⟩) ∧ ∀ t ∈ l, Q t
  | 0, o, _ => ⟨[], rfl, trivial, fun _ h => by simp at h⟩
  | n + 1, o, h => by
    obtain ⟨t, v0, v1, v2, hf, c0, c1, c2, hr, hq⟩ := h 0 (by omega)
    obtain ⟨l, hl, hrl, hql⟩ := build_rdl2 hg n (o + 3) (fun i hi => by
      have := h (i + 1) (by omega)
      rw [show o + (i + 1) * 3 = o + 3 + i * 3 by omega] at this
      exact this)
    simp only [Nat.zero_mul, Nat.add_zero] at hf c0 c1 c2
    exact ⟨t :: l, by simp [hl], ⟨g, o, v0, v1, v2, rfl, hg, hf, c0, c1, c2, hr, hrl⟩, fun u hu => by
      rcases List.mem_cons.1 hu with rfl | hu
      · exact hq
      · exact hql u hu⟩
theorem open_rd {H : Type} {enc : TypeId × Value → H} {W : World} {sp : Nat → Bool} {held : Bool} : ∀ (fuel : Nat) (cs : List Value) (x : DataW H × List MemPlace), DataW.trod enc Tryd.prog W 0 sp held fuel 51 cs = some x → W.noneFrozen x.2 →
    ∃ (t : Tree) (a : Option Addr) (cap : Nat), cs = [.int .i8 t.kind, .string (bytesL t.text), .slice a t.kids.length cap] ∧ Rd W (fun b => W.heap.size ≤ b) t (.agg #[.int .i8 t.kind, .string (bytesL t.text), .slice a t.kids.length cap]) ∧ (WB 51 x.1 → RowsT t) := by
  intro fuel
  induction fuel using Nat.strongRecOn with
  | _ fuel ih =>
    intro cs x h hfz
    obtain ⟨xs, n, rfl, rfl, hlen, hxs, hf⟩ := DataW.trod_struct Tryd.underlying51 h
    rw [cSexp] at hlen
    obtain ⟨c0, c1, c2, rfl⟩ : ∃ c0 c1 c2, cs = [c0, c1, c2] := by
      clear h hf ih hfz
      match cs, hlen with
      | [a, b, c], _ => exact ⟨a, b, c, rfl⟩
    obtain ⟨y0, y1, y2, rfl⟩ : ∃ a b c, xs = [a, b, c] := by
      have h3 : xs.length = 3 := hxs
      clear h hf ih hfz hxs
      match xs, h3 with
      | [a, b, c], _ => exact ⟨a, b, c, rfl⟩
    have h0 := hf 0 ({ name := "Kind", type := 48, offset := 0, embedded := false, tag := "", pkgPath := "", byteOffset := 0 }) rfl
    have h1 := hf 1 ({ name := "Text", type := 9, offset := 1, embedded := false, tag := "", pkgPath := "", byteOffset := 8 }) rfl
    have h2 := hf 2 ({ name := "L", type := 49, offset := 2, embedded := false, tag := "", pkgPath := "", byteOffset := 24 }) rfl
    simp only [cI8, cStr, cSl, List.drop_zero, List.take_succ_cons, List.take_zero, List.drop_succ_cons, List.getElem?_cons_zero, List.getElem?_cons_succ] at h0 h1 h2
    obtain ⟨k, e0, _, _⟩ := DataW.trod_int Tryd.underlying48 h0
    obtain ⟨s, e1, _, hs⟩ := DataW.trod_string Tryd.underlying9 h1
    simp only [List.cons.injEq, and_true] at e0 e1
    subst e0 e1
    have hsl : (s.data.toList).length ≤ maxLen := by simpa using hs
    have hse : bytesL s.data.toList = s := bytesL_self s
    rcases DataW.trod_slice Tryd.underlying49 h2 with ⟨e2, _⟩ | ⟨a, len, cap, elems, rest, m, rfl, e2, hx2, _, hlc, hcm, hel, hi, _, _⟩
    · simp only [List.cons.injEq, and_true] at e2
      subst e2
      exact ⟨.node k s.data.toList [], none, 0, (by show _ = [_, Value.string (bytesL s.data.toList), _]; rw [hse]; rfl), ⟨none, 0, rfl, by simp, by simp, hsl, trivial⟩, fun _ => by unfold RowsT; simp⟩
    · simp only [List.cons.injEq, and_true] at e2
      subst e2
      have hfz2 : W.noneFrozen y2.2 := fun b off hb => hfz b off (by simp [hb])
      rw [hx2] at hfz2
      rw [cSexp] at hi hfz2
      by_cases hl0 : len = 0
      · subst hl0
        exact ⟨.node k s.data.toList [], some a, cap, (by show _ = [_, Value.string (bytesL s.data.toList), _]; rw [hse]; rfl), ⟨some a, cap, rfl, by simp, hcm, hsl, trivial⟩, fun _ => by unfold RowsT; simp⟩
      · have h00 := hi 0 (by omega)
        obtain ⟨z, hz⟩ : ∃ z, elems[0]? = some z := ⟨_, List.getElem?_eq_getElem (by omega)⟩
        rw [hz] at h00
        obtain ⟨cs', hc', _⟩ := Option.bind_eq_some_iff.1 h00
        obtain ⟨w0, _, _, _, q0, _, _⟩ := cells3 hc'
        have e00 : (a.add (0 * 3)).add 0 = a := by simp [Addr.add]
        rw [e00] at q0
        obtain ⟨hsp, hab⟩ := spot_none q0
        have hall : ∀ i, i < len → ∃ t v0 v1 v2, W.frozen? ⟨a.block, a.off + i * 3, none⟩ = false ∧ W.cell? ⟨a.block, a.off + i * 3, none⟩ = some v0 ∧ W.cell? ⟨a.block, a.off + i * 3 + 1, none⟩ = some v1 ∧ W.cell? ⟨a.block, a.off + i * 3 + 1 + 1, none⟩ = some v2 ∧ Rd W (fun b => W.heap.size ≤ b) t (.agg #[v0, v1, v2]) ∧ (WB 49 y2.1 → RowsT t) := fun i hil => by
          have hh := hi i hil
          obtain ⟨z, hz⟩ : ∃ z, elems[i]? = some z := ⟨_, List.getElem?_eq_getElem (by omega)⟩
          rw [hz] at hh
          obtain ⟨cs', hc', ht'⟩ := Option.bind_eq_some_iff.1 hh
          have hzm : z ∈ elems := List.mem_of_getElem? hz
          obtain ⟨t, ta, tc, rfl, hr, hw⟩ := ih m (by omega) cs' z ht' (fun b off hb => hfz2 b off (List.mem_append_right _ (List.mem_flatMap.2 ⟨z, List.mem_append_left _ hzm, hb⟩)))
          obtain ⟨w0, w1, w2, e, q0, q1, q2⟩ := cells3 hc'
          simp only [List.cons.injEq, and_true] at e
          obtain ⟨rfl, rfl, rfl⟩ := e
          rw [add_add hsp] at q0 q1 q2
          refine ⟨t, _, _, _, hfz2 _ _ (List.mem_append_left _ ?_), q0, q1, q2, hr, fun hB => hw (wb_elem Tryd.underlying49 (by rw [hx2] at hB; exact hB) (List.mem_map_of_mem hzm))⟩
          unfold MemPlace.row
          refine List.mem_map.2 ⟨i * 3, List.mem_range.2 ?_, rfl⟩
          have : (i + 1) * 3 ≤ (elems.length + rest.length) * 3 := Nat.mul_le_mul_right _ (by omega)
          omega
        obtain ⟨l, hl, hrl, hql⟩ := build_rdl2 (w := W) (bad := fun b => W.heap.size ≤ b) (Q := fun t => WB 49 y2.1 → RowsT t) (g := a.block) (by omega) len a.off (fun i hi' => hall i hi')
        refine ⟨.node k s.data.toList l, some a, cap, (by show _ = [_, Value.string (bytesL s.data.toList), Value.slice (some a) l.length cap]; rw [hse, hl]; rfl), ⟨some a, cap, rfl, by show l.length ≤ cap; omega, hcm, hsl, ?_⟩, fun hB => ?_⟩
        · rw [hsp]
          exact hrl
        · have hB2 : WB 49 y2.1 := wb_field Tryd.underlying51 hB 2 rfl rfl
          have hln := hB2
          rw [hx2] at hln
          have := wb_len Tryd.underlying49 hln
          rw [bSexp, List.length_map, List.length_map] at this
          unfold RowsT
          refine ⟨?_, fun t ht => hql t ht hB2⟩
          have hrb : reachBytes ≤ 140737488355328 := by decide
          have h3 : l.length * 48 ≤ (elems.length + rest.length) * 48 := Nat.mul_le_mul_right _ (by omega)
          omega
end Go.Proofs.YtinogambkfihpaaDoor
